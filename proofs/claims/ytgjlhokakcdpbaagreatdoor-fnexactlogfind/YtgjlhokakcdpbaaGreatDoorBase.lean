/-
  Texts joined into one: the draws of disks, and what they want.
-/
import Derived.WalkKit
import Derived.ProofKit
import Derived.Below
import Derived.Deep.Draws
import Derived.Deep.AppendLies
import Derived.Laws.OwnMore
import Derived.Laws.Rows
import Derived.Test.YtgjlhokakcdpbaaGreatDoorRows
import Derived.Lib.Hide
import Derived.Laws.StructEq
import Derived.Laws.IdiomStrings
import Derived.Laws.BytesArg
import Derived.Lib.ItoaNum
import Derived.Lib.ItoaMem
import Derived.Lib.ItoaLen
import Derived.WalkSpells
import Derived.Test.YtgjlhokakcdpbaaGreatDoorShelf
import Derived.Lib.AppendIntMem
import Derived.WalkSmall
import Derived.Deep.QuietTactic
import Derived.BigQuiet
import Derived.Deep.RegionHeld3
import Derived.Laws.Pointers

/-
  Words for memory: slices that read as lists of cells, slices that a call owns, and which blocks a call has turned.
-/
set_option maxRecDepth 100000
namespace Go.Proofs.Palim
open Go Go.RowKit

/-- The slice value v has n elements of sz cells each, which hold xs. -/
def Sl (w : World) (sz : Nat) (v : Value) (n : Nat) (xs : List Value) : Prop :=
  xs.length = n * sz ∧ ∃ A c, v = .slice A n c ∧ n ≤ c ∧ c ≤ maxLen ∧ (n = 0 ∨ ∃ b off, A = some ⟨b, off, none⟩ ∧ ∀ j u, xs[j]? = some u → w.cell? ⟨b, off + j, none⟩ = some u)

theorem Sl.kept {w w' : World} {sz n : Nat} {v : Value} {xs : List Value} (h : Sl w sz v n xs) (hk : ∀ b, v.ownBlock = some b → w'.heap[b]? = w.heap[b]?) : Sl w' sz v n xs := by
  obtain ⟨h1, A, c, rfl, h2, h3, h4⟩ := h
  refine ⟨h1, A, c, rfl, h2, h3, h4.imp id ?_⟩
  rintro ⟨b, off, rfl, hc⟩
  exact ⟨b, off, rfl, fun j u hu => (World.cell?_of_block (hk b rfl)).trans (hc j u hu)⟩
theorem Sl.le {w : World} {sz n : Nat} {v : Value} {xs : List Value} (h : Sl w sz v n xs) : n ≤ maxLen := by
  obtain ⟨_, A, c, _, h2, h3, _⟩ := h; omega
/-- Its block is there, if it has an element. -/
theorem Sl.lt {w : World} {sz n : Nat} {v : Value} {xs : List Value} (h : Sl w sz v n xs) (hn : 0 < n) (hsz : 0 < sz) : ∀ b, v.ownBlock = some b → b < w.heap.size := by
  obtain ⟨h1, A, c, rfl, h2, h3, h4⟩ := h
  obtain ⟨b, off, rfl, hc⟩ := h4.resolve_left (by omega)
  intro b' e
  have e' : b = b' := by simpa [Value.ownBlock] using e
  subst e'
  have hl : 0 < xs.length := by rw [h1]; exact Nat.mul_pos hn hsz
  exact World.block_lt_of_cell? w _ (hc 0 xs[0] (List.getElem?_eq_getElem hl))
/-- A slice that has an element, written out. -/
theorem Sl.form {w : World} {sz n : Nat} {v : Value} {xs : List Value} (h : Sl w sz v n xs) (hn : 0 < n) :
    ∃ b off c, v = .slice (some ⟨b, off, none⟩) n c ∧ n ≤ c ∧ c ≤ maxLen ∧ ∀ j u, xs[j]? = some u → w.cell? ⟨b, off + j, none⟩ = some u := by
  obtain ⟨_, A, c, rfl, h2, h3, h4⟩ := h
  obtain ⟨b, off, rfl, hc⟩ := h4.resolve_left (by omega)
  exact ⟨b, off, c, rfl, h2, h3, hc⟩
theorem Sl.below {w w' : World} {sz n B : Nat} {v : Value} {xs : List Value} (h : Sl w sz v n xs) (hb : Below B w w') (hB : ∀ b, v.ownBlock = some b → b < B) : Sl w' sz v n xs :=
  h.kept fun b e => hb.block b (hB b e)
/-- A slice that has no element reads so in every world. -/
theorem Sl.none_ {w w' : World} {sz : Nat} {v : Value} {xs : List Value} (h : Sl w sz v 0 xs) : Sl w' sz v 0 xs := by
  obtain ⟨h1, A, c, rfl, h2, h3, _⟩ := h
  exact ⟨h1, A, c, rfl, h2, h3, Or.inl rfl⟩

/-- What the call owns reads as it says. -/
theorem sl_of_own {w : World} {base e sz n : Nat} {v : Value} {xs : List Value} (h : w.ownsRow base e sz v n xs) : Sl w sz v n xs := by
  rcases h.2 with ⟨rfl, rfl⟩ | ⟨g, cap, cur, rfl, hb, hg, h1, h2, h3, h4⟩
  · exact ⟨h.1, none, 0, rfl, Nat.le_refl _, Nat.zero_le _, Or.inl rfl⟩
  · refine ⟨h.1, _, cap, rfl, h1, h2, Or.inr ⟨g, 0, rfl, fun j u hu => ?_⟩⟩
    have := h.cells (g := g) rfl j u hu
    have ha : (⟨g, 0, none⟩ : Addr).add j = ⟨g, 0 + j, none⟩ := by unfold Addr.add; split <;> simp_all
    rwa [ha] at this
theorem own_kept {w w' : World} {base e sz n : Nat} {v : Value} {xs : List Value} (h : w.ownsRow base e sz v n xs) (hk : ∀ b, v.ownBlock = some b → w'.heap[b]? = w.heap[b]?) : w'.ownsRow base e sz v n xs := by
  refine ⟨h.1, ?_⟩
  rcases h.2 with hn | ⟨g, cap, cur, rfl, hb, hg, rest⟩
  · exact .inl hn
  · exact .inr ⟨g, cap, cur, rfl, hb, by rw [hk g rfl]; exact hg, rest⟩
theorem own_base {w : World} {base base' e sz n : Nat} {v : Value} {xs : List Value} (h : w.ownsRow base e sz v n xs) (hb : base' ≤ base) : w.ownsRow base' e sz v n xs := by
  refine ⟨h.1, h.2.imp id ?_⟩
  rintro ⟨g, cap, cur, rfl, hg, rest⟩
  exact ⟨g, cap, cur, rfl, Nat.le_trans hb hg, rest⟩

/-- The world w' is w but for the blocks of S and new ones. -/
structure Turned (S : Nat → Prop) (w w' : World) : Prop where
  os : w'.os = w.os
  tape : w'.tape = w.tape
  output : w'.output = w.output
  size : w.heap.size ≤ w'.heap.size
  block : ∀ k, k < w.heap.size → ¬ S k → w'.heap[k]? = w.heap[k]?
theorem Turned.refl (S : Nat → Prop) (w : World) : Turned S w w := ⟨rfl, rfl, rfl, Nat.le_refl _, fun _ _ _ => rfl⟩
theorem Turned.trans {S : Nat → Prop} {a b c : World} (h : Turned S a b) (k : Turned S b c) : Turned S a c :=
  ⟨k.os.trans h.os, k.tape.trans h.tape, k.output.trans h.output, Nat.le_trans h.size k.size, fun i hi hn => (k.block i (Nat.lt_of_lt_of_le hi h.size) hn).trans (h.block i hi hn)⟩
theorem Turned.mono {S T : Nat → Prop} {a b : World} (h : Turned S a b) (hST : ∀ k, k < a.heap.size → S k → T k) : Turned T a b :=
  ⟨h.os, h.tape, h.output, h.size, fun i hi hn => h.block i hi (fun hs => hn (hST i hi hs))⟩
theorem turned_of_below {S : Nat → Prop} {a b : World} (h : Below a.heap.size a b) : Turned S a b := ⟨h.os, h.tape, h.output, h.size, fun i hi _ => h.block i hi⟩
theorem Turned.below {S : Nat → Prop} {B : Nat} {a b : World} (h : Turned S a b) (hB : ∀ k, k < B → k < a.heap.size → ¬ S k) (hs : B ≤ a.heap.size) : Below B a b :=
  ⟨h.os, h.tape, h.output, h.size, fun k hk => h.block k (Nat.lt_of_lt_of_le hk hs) (hB k hk (Nat.lt_of_lt_of_le hk hs))⟩
theorem turned_setCell {S : Nat → Prop} {a w : World} (h : Turned S a w) {p : Addr} (hp : S p.block) (u : Value) : Turned S a (w.setCell p u) :=
  ⟨h.os, h.tape, h.output, by simpa [World.setCell] using h.size, fun i hi hn => (Below.heap_setCell w p u i (fun e => hn (e ▸ hp))).trans (h.block i hi hn)⟩

/-- A store into a cell that the call owns. -/
theorem own_setN {w : World} {base e sz g n cap : Nat} {xs : List Value} (h : w.ownsRow base e sz (.slice (some ⟨g, 0, none⟩) n cap) n xs) (k : Nat) (u : Value) :
    (w.setCell ⟨g, k, none⟩ u).ownsRow base e sz (.slice (some ⟨g, 0, none⟩) n cap) n (xs.set k u) := by
  refine ⟨by rw [List.length_set]; exact h.1, .inr ?_⟩
  rcases h.2 with ⟨hv, _⟩ | ⟨g', cap', cur, hv, hb, hg, h1, h2, h3, h4⟩
  · cases hv
  · injection hv with e1 e2 e3
    injection e1 with e1
    injection e1 with e1
    subst e1 e3
    refine ⟨g, cap, cur.setIfInBounds k u, rfl, hb, ?_, h1, h2, by rw [Array.size_setIfInBounds]; exact h3, ?_⟩
    · show (w.setCell ⟨g, k, none⟩ u).heap[g]? = _
      simp [World.setCell, Array.getElem?_modify, hg]
    · rw [Array.toList_setIfInBounds, List.take_set, h4]
theorem own_set {w : World} {base e g n cap : Nat} {xs : List Value} (h : w.ownsRow base e 1 (.slice (some ⟨g, 0, none⟩) n cap) n xs) (k : Nat) (u : Value) :
    (w.setCell ⟨g, k, none⟩ u).ownsRow base e 1 (.slice (some ⟨g, 0, none⟩) n cap) n (xs.set k u) := own_setN h k u
/-- An element's cell, and that it may be written. -/
theorem own_at {w : World} {base e sz g n cap : Nat} {xs : List Value} (h : w.ownsRow base e sz (.slice (some ⟨g, 0, none⟩) n cap) n xs) (k : Nat) (hk : k < n * sz) :
    (∃ u, xs[k]? = some u ∧ w.cell? ⟨g, k, none⟩ = some u) ∧ w.frozen? ⟨g, k, none⟩ = false ∧ base ≤ g ∧ g < w.heap.size := by
  have hl : k < xs.length := by rw [h.1]; exact hk
  have hc := h.cells (g := g) rfl k xs[k] (List.getElem?_eq_getElem hl)
  have ha : (⟨g, 0, none⟩ : Addr).add k = ⟨g, k, none⟩ := by unfold Addr.add; split <;> simp_all
  rw [ha] at hc
  have hlt := h.lt g rfl
  refine ⟨⟨_, List.getElem?_eq_getElem hl, hc⟩, ?_, hlt.1, hlt.2⟩
  rcases h.2 with ⟨hv, _⟩ | ⟨g', cap', cur, hv, hb, hg, _⟩
  · cases hv
  · injection hv with e1
    injection e1 with e1
    injection e1 with e1
    subst e1
    simp [World.frozen?, hg]

/-- The cells of a list of strings. -/
def scs (ss : List ByteArray) : List Value := ss.map Value.string
theorem scs_length (ss : List ByteArray) : (scs ss).length = ss.length := by simp [scs]
theorem scs_at (ss : List ByteArray) (k : Nat) (h : k < ss.length) : (scs ss)[k]? = some (.string ss[k]) := by simp [scs, h]
theorem scs_snoc (a : List ByteArray) (s : ByteArray) : scs (a ++ [s]) = scs a ++ [.string s] := by simp [scs]
theorem take_set_succ {α : Type} (xs : List α) (k : Nat) (u : α) (h : k < xs.length) : (xs.set k u).take (k + 1) = xs.take k ++ [u] := by
  rw [List.take_succ_eq_append_getElem (by rw [List.length_set]; exact h), List.take_set_of_le (Nat.le_refl _), List.getElem_set_self]
theorem take_set3 {α : Type} (xs : List α) (k : Nat) (a b c : α) (h : k * 3 + 2 < xs.length) : (((xs.set (k * 3) a).set (k * 3 + 1) b).set (k * 3 + 2) c).take ((k + 1) * 3) = xs.take (k * 3) ++ [a, b, c] := by
  rw [show (k + 1) * 3 = k * 3 + 2 + 1 by omega, take_set_succ _ _ _ (by simp; omega), take_set_succ _ _ _ (by simp; omega), take_set_succ _ _ _ (by omega)]
  simp
end Go.Proofs.Palim

/-
  Boxes: blocks of a call's own that hold a variable, cell by cell.
-/
set_option maxRecDepth 100000
namespace Go.Proofs.Palim
open Go Go.RowKit

/-- Block b holds these cells, and they may be written. -/
def Box (w : World) (b : Nat) (vs : List Value) : Prop := ∃ c e, w.heap[b]? = some (.cells c e (0, 0)) ∧ c.toList = vs
theorem Box.cell {w : World} {b : Nat} {vs : List Value} (h : Box w b vs) (k : Nat) {u : Value} (hu : vs[k]? = some u) : w.cell? ⟨b, k, none⟩ = some u := by
  obtain ⟨c, e, hb, rfl⟩ := h
  simp only [World.cell?, hb]
  simpa using hu
theorem Box.open_ {w : World} {b : Nat} {vs : List Value} (h : Box w b vs) (k : Nat) : w.frozen? ⟨b, k, none⟩ = false := by
  obtain ⟨c, e, hb, rfl⟩ := h
  simp [World.frozen?, hb]
theorem Box.lt {w : World} {b : Nat} {vs : List Value} (h : Box w b vs) : b < w.heap.size := by
  obtain ⟨c, e, hb, _⟩ := h
  exact (Array.getElem?_eq_some_iff.1 hb).1
theorem Box.kept {w w' : World} {b : Nat} {vs : List Value} (h : Box w b vs) (hk : w'.heap[b]? = w.heap[b]?) : Box w' b vs := by
  obtain ⟨c, e, hb, hv⟩ := h
  exact ⟨c, e, hk.trans hb, hv⟩
theorem Box.below {w w' : World} {b B : Nat} {vs : List Value} (h : Box w b vs) (hb : Below B w w') (hB : b < B) : Box w' b vs := h.kept (hb.block b hB)
theorem Box.turned {S : Nat → Prop} {w w' : World} {b : Nat} {vs : List Value} (h : Box w b vs) (ht : Turned S w w') (hS : ¬ S b) : Box w' b vs := h.kept (ht.block b h.lt hS)
theorem Box.other {w : World} {b : Nat} {vs : List Value} (h : Box w b vs) {p : Addr} (hp : b ≠ p.block) (u : Value) : Box (w.setCell p u) b vs := h.kept (Below.heap_setCell w p u b hp)
theorem Box.set {w : World} {b : Nat} {vs : List Value} (h : Box w b vs) (k : Nat) (u : Value) : Box (w.setCell ⟨b, k, none⟩ u) b (vs.set k u) := by
  obtain ⟨c, e, hb, rfl⟩ := h
  refine ⟨c.setIfInBounds k u, e, ?_, by rw [Array.toList_setIfInBounds]⟩
  simp [World.setCell, Array.getElem?_modify, hb]
theorem Box.drewN {w : World} {b : Nat} {vs : List Value} (h : Box w b vs) (q : Nat) : Box (w.drewN q) b vs := h
theorem Box.drew {w : World} {b : Nat} {vs : List Value} (h : Box w b vs) : Box w.drew b vs := h
theorem box_new (w : World) (c : Array Value) (e : Nat) : Box (w.alloc (.cells c e)) w.heap.size c.toList := ⟨c, e, by show (w.heap.push (.cells c e))[w.heap.size]? = _; simp, rfl⟩
theorem Box.alloc {w : World} {b : Nat} {vs : List Value} (h : Box w b vs) (o : Obj) : Box (w.alloc o) b vs := h.kept (Below.heap_alloc w o b h.lt)
/-- Two and three cells read out. -/
theorem Box.two {w : World} {b : Nat} {x y : Value} (h : Box w b [x, y]) : w.cell? ⟨b, 0, none⟩ = some x ∧ w.cell? ⟨b, 1, none⟩ = some y := ⟨h.cell 0 rfl, h.cell 1 rfl⟩
theorem Box.three {w : World} {b : Nat} {x y z : Value} (h : Box w b [x, y, z]) : w.cell? ⟨b, 0, none⟩ = some x ∧ w.cell? ⟨b, 1, none⟩ = some y ∧ w.cell? ⟨b, 2, none⟩ = some z := ⟨h.cell 0 rfl, h.cell 1 rfl, h.cell 2 rfl⟩
theorem box1 (w : World) (c0 : Array Value) (e0 : Nat) : Box (w.alloc (.cells c0 e0)) w.heap.size c0.toList ∧ (w.alloc (.cells c0 e0)).heap.size = w.heap.size + 1 ∧ Below w.heap.size w (w.alloc (.cells c0 e0)) :=
  ⟨box_new _ _ _, by simp, (Below.refl _ _).alloc (Nat.le_refl _) _⟩
theorem box2 (w : World) (c0 c1 : Array Value) (e0 e1 : Nat) : Box ((w.alloc (.cells c0 e0)).alloc (.cells c1 e1)) w.heap.size c0.toList ∧ Box ((w.alloc (.cells c0 e0)).alloc (.cells c1 e1)) (w.heap.size + 1) c1.toList ∧ ((w.alloc (.cells c0 e0)).alloc (.cells c1 e1)).heap.size = w.heap.size + 2 ∧ Below w.heap.size w ((w.alloc (.cells c0 e0)).alloc (.cells c1 e1)) :=
  ⟨(box_new _ _ _).alloc _, by simpa using box_new (w.alloc (.cells c0 e0)) c1 e1, by simp, ((Below.refl _ _).alloc (Nat.le_refl _) _).alloc (by simp) _⟩
theorem box3 (w : World) (c0 c1 c2 : Array Value) (e0 e1 e2 : Nat) : Box (((w.alloc (.cells c0 e0)).alloc (.cells c1 e1)).alloc (.cells c2 e2)) w.heap.size c0.toList ∧ Box (((w.alloc (.cells c0 e0)).alloc (.cells c1 e1)).alloc (.cells c2 e2)) (w.heap.size + 1) c1.toList ∧ Box (((w.alloc (.cells c0 e0)).alloc (.cells c1 e1)).alloc (.cells c2 e2)) (w.heap.size + 1 + 1) c2.toList ∧ (((w.alloc (.cells c0 e0)).alloc (.cells c1 e1)).alloc (.cells c2 e2)).heap.size = w.heap.size + 3 ∧ Below w.heap.size w (((w.alloc (.cells c0 e0)).alloc (.cells c1 e1)).alloc (.cells c2 e2)) :=
  ⟨(box2 w c0 c1 e0 e1).1.alloc _, (box2 w c0 c1 e0 e1).2.1.alloc _, by simpa using box_new ((w.alloc (.cells c0 e0)).alloc (.cells c1 e1)) c2 e2, by simp, (box2 w c0 c1 e0 e1).2.2.2.alloc (by simp; omega) _⟩
/-- Two values whose blocks are not one. -/
def Apart (a b : Value) : Prop := ∀ g, a.ownBlock = some g → b.ownBlock ≠ some g
theorem Apart.symm {a b : Value} (h : Apart a b) : Apart b a := fun g e e' => h g e' e
end Go.Proofs.Palim

/-
  Pointers as values: the laws' helpers on them, and which of them are valid.
-/
set_option maxRecDepth 100000
namespace Go.Proofs.YtgjlhokakcdpbaaGreatDoor
open Go.ChangeShapes Go.WideShapes Go.ChangeAt Go.RowKit Go.Proofs.Palim

structure PtrM where
  at_ : Int
  sum : Int
  birth : Int
/-- A pointer's value. -/
abbrev pv (p : PtrM) : Value := .agg #[.int .i64 p.at_, .int .i64 p.sum, .int .i64 p.birth]
/-- Its numbers are ints. -/
structure PtrFits (p : PtrM) : Prop where
  a : -9223372036854775808 ≤ p.at_ ∧ p.at_ ≤ 9223372036854775807
  s : -9223372036854775808 ≤ p.sum ∧ p.sum ≤ 9223372036854775807
  b : -9223372036854775808 ≤ p.birth ∧ p.birth ≤ 9223372036854775807
def NullM (p : PtrM) : Prop := p.at_ = 0 ∧ p.sum = 0 ∧ p.birth = 0
instance (p : PtrM) : Decidable (NullM p) := by unfold NullM; infer_instance
def GoodM (p : PtrM) : Prop := 1 ≤ p.at_ ∧ p.at_ < 120 ∧ 0 ≤ p.sum ∧ p.sum < 65521 ∧ 0 ≤ p.birth ∧ p.birth ≤ 1000000
instance (p : PtrM) : Decidable (GoodM p) := by unfold GoodM; infer_instance
def PtrOkM (p : PtrM) : Prop := NullM p ∨ GoodM p
instance (p : PtrM) : Decidable (PtrOkM p) := by unfold PtrOkM; infer_instance

theorem ret_b {a b : Bool} (h : a = b) : Ending.returned (.bool a) = Ending.returned (.bool b) := by rw [h]
theorem dec_b {a b : Bool} (h : a = true ↔ b = true) : a = b := by cases a <;> cases b <;> simp_all

set_option maxHeartbeats 400000 in
theorem toPtr_any (p : PtrM) (w : World) :
    Calls Tryz.prog 143 #[pv p] w fun e w' => e = .returned (pv p) ∧ Below w.heap.size w w' := by
  obtain ⟨a, s, b⟩ := p
  go_enter Tryz.func143, Tryz.ntmps143
  go_wp2
  refine bodyPost_ret (v := pv ⟨a, s, b⟩) (by simp [results, Tryz.results143, go_sem, pv]) rfl ⟨rfl, ?_⟩
  exact (((Below.refl _ w).alloc (Nat.le_refl _) _).alloc (by simp) _).alloc (by simp; omega) _

set_option maxHeartbeats 400000 in
theorem eqPtr_any (p q : PtrM) (w : World) :
    Calls Tryz.prog 157 #[pv p, pv q] w fun e w' => e = .returned (.bool (decide (p.at_ = q.at_ ∧ p.sum = q.sum ∧ p.birth = q.birth))) ∧ Below w.heap.size w w' := by
  obtain ⟨a, s, b⟩ := p
  obtain ⟨c, t, d⟩ := q
  have fin : ∀ r : Bool, (r = true ↔ (a = c ∧ s = t ∧ b = d)) → Ending.returned (.bool r) = Ending.returned (.bool (decide (a = c ∧ s = t ∧ b = d))) := fun r h => ret_b (dec_b (by rw [h, decide_eq_true_eq]))
  by_cases h1 : a = c
  · by_cases h2 : s = t
    · by_cases h3 : b = d
      all_goals
        go_enter Tryz.func157, Tryz.ntmps157
        go_wp2
        go_ret
        exact ⟨fin _ (by simp [h1, h2, h3]), ((Below.refl _ _).alloc (Nat.le_refl _) _).alloc (by simp) _⟩
    · go_enter Tryz.func157, Tryz.ntmps157
      go_wp2
      go_ret
      exact ⟨fin _ (by simp [h2]), ((Below.refl _ _).alloc (Nat.le_refl _) _).alloc (by simp) _⟩
  · go_enter Tryz.func157, Tryz.ntmps157
    go_wp2
    go_ret
    exact ⟨fin _ (by simp [h1]), ((Below.refl _ _).alloc (Nat.le_refl _) _).alloc (by simp) _⟩
theorem eqPtr_same (p : PtrM) (w : World) :
    Calls Tryz.prog 157 #[pv p, pv p] w fun e w' => e = .returned (.bool true) ∧ Below w.heap.size w w' := by
  refine (eqPtr_any p p w).mono ?_
  rintro e w' ⟨rfl, hb⟩
  exact ⟨by simp, hb⟩

set_option maxHeartbeats 400000 in
theorem implPtrOk_any (p : PtrM) (w : World) :
    Calls Tryz.prog 203 #[pv p] w fun e w' => e = .returned (.bool (decide (PtrOkM p))) ∧ Below w.heap.size w w' := by
  obtain ⟨a, s, b⟩ := p
  by_cases h1 : a = 0
  all_goals by_cases h2 : s = 0
  all_goals by_cases h3 : b = 0
  all_goals go_enter Tryz.func203, Tryz.ntmps203
  all_goals go_wp2
  all_goals
    go_ret
    exact ⟨ret_b (dec_b (by first | (simp only [decide_eq_true_eq, Bool.false_eq_true, false_iff, true_iff] at *; unfold PtrOkM NullM GoodM; simp only; omega) | (simp [PtrOkM, NullM, GoodM]; done) | (simp [PtrOkM, NullM, GoodM]; omega))), (Below.refl _ _).alloc (Nat.le_refl _) _⟩

set_option maxHeartbeats 400000 in
theorem specPtrOk_any (p : PtrM) (w : World) :
    Calls Tryz.prog 132 #[pv p] w fun e w' => e = .returned (.bool (decide (PtrOkM p))) ∧ Below w.heap.size w w' := by
  obtain ⟨a, s, b⟩ := p
  by_cases h1 : a = 0
  all_goals by_cases h2 : s = 0
  all_goals by_cases h3 : b = 0
  all_goals go_enter Tryz.func132, Tryz.ntmps132
  all_goals go_wp2
  all_goals
    go_ret
    exact ⟨ret_b (dec_b (by first | (simp only [decide_eq_true_eq, Bool.false_eq_true, false_iff, true_iff, beq_eq_false_iff_ne, ne_eq] at *; unfold PtrOkM NullM GoodM; simp only; omega) | (simp [PtrOkM, NullM, GoodM]; done) | (simp [PtrOkM, NullM, GoodM]; omega))), (Below.refl _ _).alloc (Nat.le_refl _) _⟩
theorem implPtrOk_is (p : PtrM) (w : World) (r : Bool) (hr : decide (PtrOkM p) = r) :
    Calls Tryz.prog 203 #[pv p] w fun e w' => e = .returned (.bool r) ∧ Below w.heap.size w w' := hr ▸ implPtrOk_any p w
theorem specPtrOk_is (p : PtrM) (w : World) (r : Bool) (hr : decide (PtrOkM p) = r) :
    Calls Tryz.prog 132 #[pv p] w fun e w' => e = .returned (.bool r) ∧ Below w.heap.size w w' := hr ▸ specPtrOk_any p w
end Go.Proofs.YtgjlhokakcdpbaaGreatDoor

/-
  The plain mathematics of the document's checksum: a fold over the bytes, bounded by the modulus.
-/
set_option maxRecDepth 100000
namespace Go.Proofs.Palim
open Go

/-- The checksum after one more byte. -/
def sumStep (n : Int) (c : UInt8) : Int := (257 * n + (c.toNat : Int) + 1) % 65521
/-- The checksum of a list of bytes, from a start. -/
def sumFrom (n : Int) (l : List UInt8) : Int := l.foldl sumStep n

theorem sumStep_bd (n : Int) (c : UInt8) : 0 ≤ sumStep n c ∧ sumStep n c < 65521 := by
  unfold sumStep; omega
theorem sumFrom_bd (l : List UInt8) : ∀ n : Int, 0 ≤ n → n < 65521 → 0 ≤ sumFrom n l ∧ sumFrom n l < 65521 := by
  induction l with
  | nil => intro n h1 h2; exact ⟨h1, h2⟩
  | cons c l ih => intro n _ _; exact ih _ (sumStep_bd n c).1 (sumStep_bd n c).2
theorem sumFrom_snoc (n : Int) (l : List UInt8) (c : UInt8) : sumFrom n (l ++ [c]) = sumStep (sumFrom n l) c := by
  simp [sumFrom]
theorem take_snoc (s : ByteArray) (k : Nat) (h : k < s.size) : s.data.toList.take (k + 1) = s.data.toList.take k ++ [s[k]] := by
  rw [List.take_succ_eq_append_getElem (by simpa using h)]; rfl
theorem ret_int {k : IntKind} {a b : Int} (h : a = b) : Ending.returned (.int k a) = .returned (.int k b) := by rw [h]
/-- The checksum of a text. -/
def sumOf (s : ByteArray) : Int := sumFrom (1 + (s.size : Int) % 997) s.data.toList
theorem sumOf_bd (s : ByteArray) : 0 ≤ sumOf s ∧ sumOf s < 65521 :=
  sumFrom_bd _ _ (by omega) (by omega)
end Go.Proofs.Palim

/-
  The two checksum functions return the checksum of their text, and change nothing.
-/
set_option maxRecDepth 100000
namespace Go.Proofs.YtgjlhokakcdpbaaGreatDoor
open Go.ChangeShapes Go.WideShapes Go.ChangeAt Go.RowKit Go.Proofs.Palim

set_option maxHeartbeats 400000 in
theorem with_any (n : Int) (c : UInt8) (w : World) (h0 : 0 ≤ n) (h1 : n < 65521) :
    Calls Tryz.prog 164 #[.int .i64 n, .int .u8 (c.toNat : Int)] w fun e w' => e = .returned (.int .i64 (sumStep n c)) ∧ w = w' := by
  have hc := c.toNat_lt
  go_enter Tryz.func164, Tryz.ntmps164
  go_wp2
  go_ret
  exact ⟨ret_int (by unfold sumStep; rfl), rfl⟩

set_option maxHeartbeats 400000 in
theorem specSumOf_any (s : ByteArray) (w : World) (hs : s.size ≤ maxLen) :
    Calls Tryz.prog 119 #[.string s] w fun e w' => e = .returned (.int .i64 (sumOf s)) ∧ w = w' := by
  unfold maxLen at hs
  go_enter Tryz.func119, Tryz.ntmps119
  go_wp2
  go_loop [3, 4] (fun n i => ∃ k : Nat, k ≤ s.size ∧ i = .int .i64 k ∧ n = .int .i64 (sumFrom (1 + (s.size : Int) % 997) (s.data.toList.take k))) (fun _ i => s.size - (intOf i).toNat)
  case atStart => exact ⟨0, Nat.zero_le _, rfl, rfl⟩
  case round =>
    obtain ⟨k, hk, rfl, rfl⟩ := hrel
    have hb := sumFrom_bd (s.data.toList.take k) (1 + (s.size : Int) % 997) (by omega) (by omega)
    by_cases hlt : k < s.size
    · have hsn := sumFrom_snoc (1 + (s.size : Int) % 997) (s.data.toList.take k) s[k]
      rw [← take_snoc s k hlt] at hsn
      have HS := Lib.hid hsn
      clear hsn
      have hc := s[k].toNat_lt
      go_wp2
      go_round
      case rel => exact ⟨k + 1, by omega, by go_num, by rw [HS.out]; unfold sumStep; go_num⟩
      case measure => simp [intOf]; omega
    · go_wp2
      go_ret
      exact ⟨ret_int (by unfold sumOf; rw [List.take_of_length_le (by simp; omega)]), rfl⟩

set_option maxHeartbeats 400000 in
theorem implSumOf_any (s : ByteArray) (w : World) (hs : s.size ≤ maxLen) :
    Calls Tryz.prog 108 #[.string s] w fun e w' => e = .returned (.int .i64 (sumOf s)) ∧ w = w' := by
  unfold maxLen at hs
  go_enter Tryz.func108, Tryz.ntmps108
  go_wp2
  go_loop [3, 4, 11] (fun n _ i => ∃ k : Nat, k ≤ s.size ∧ i = .int .i64 k ∧ n = .int .i64 (sumFrom (1 + (s.size : Int) % 997) (s.data.toList.take k))) (fun _ _ i => s.size - (intOf i).toNat)
  case atStart => exact ⟨0, Nat.zero_le _, rfl, rfl⟩
  case round =>
    obtain ⟨k, hk, rfl, rfl⟩ := hrel
    have hb := sumFrom_bd (s.data.toList.take k) (1 + (s.size : Int) % 997) (by omega) (by omega)
    by_cases hlt : k < s.size
    · have hsn := sumFrom_snoc (1 + (s.size : Int) % 997) (s.data.toList.take k) s[k]
      rw [← take_snoc s k hlt] at hsn
      have HS := Lib.hid hsn
      clear hsn
      go_wp2_with (go_at_call 164; refine (with_any _ _ _ (by omega) (by omega)).mono ?_; rintro e w' ⟨rfl, rfl⟩)
      go_round
      case rel => exact ⟨k + 1, by omega, by go_num, by rw [HS.out]⟩
      case measure => simp [intOf]; omega
    · go_wp2
      go_ret
      exact ⟨ret_int (by unfold sumOf; rw [List.take_of_length_le (by simp; omega)]), rfl⟩
end Go.Proofs.YtgjlhokakcdpbaaGreatDoor

/-
  Byte slices that the call made itself: read back as a string; plain facts on rows.
-/
set_option maxRecDepth 100000
namespace Go.Proofs.Palim
open Go Go.RowKit

/-- The cells of a list of bytes. -/
def bcs (l : List UInt8) : List Value := l.map fun b => .int .u8 (b.toNat : Int)
theorem bcs_length (l : List UInt8) : (bcs l).length = l.length := by simp [bcs]
theorem bcs_append (a b : List UInt8) : bcs (a ++ b) = bcs a ++ bcs b := by simp [bcs]
theorem bcs_one (l : List UInt8) : ∀ u ∈ bcs l, u.oneCell' = true := by
  intro u hu; simp only [bcs, List.mem_map] at hu; obtain ⟨b, _, rfl⟩ := hu; rfl

/-- 'string(b)' of a slice that the call owns. -/
theorem run_convert_own {P : Program} {w : World} {base e : Nat} {v : Value} {n : Nat} {l : List UInt8} (src dst : TypeId) (hs : P.underlying src = some (.slice e)) (he : P.underlying e = some (.int .u8)) (hd : P.underlying dst = some .string)
    (h : w.ownsRow base e 1 v n (bcs l)) : (convert src dst v).run P w = .ok (.string ⟨l.toArray⟩) w := by
  have hl : l.length = n := by have := h.1; rw [bcs_length] at this; omega
  rcases h.2 with ⟨rfl, rfl⟩ | ⟨g, cap, cur, rfl, hb, hg, h1, h2, h3, h4⟩
  · obtain rfl : l = [] := List.length_eq_zero_iff.1 hl
    exact run_convert_bytes_nil w src e hs he 0 0 dst hd
  · subst hl
    refine run_convert_bytes_back w src dst e ⟨g, 0, none⟩ cap l hs he hd fun j hj => ?_
    exact h.cells (g := g) rfl j _ (by simp [bcs, List.getElem?_eq_getElem hj])

/-- 'string([]byte{x})': the literal is made on the spot. -/
theorem run_convert_one {P : Program} (w : World) (src dst e : TypeId) (hs : P.underlying src = some (.slice e)) (he : P.underlying e = some (.int .u8)) (hd : P.underlying dst = some .string) (z : Int) (c : UInt8) (hz : z = (c.toNat : Int)) :
    (convert src dst (.slice (some ⟨w.heap.size, 0, none⟩) 1 1)).run P (w.alloc (.cells #[.int .u8 z] e)) = .ok (.string ⟨#[c]⟩) (w.alloc (.cells #[.int .u8 z] e)) := by
  subst hz
  refine run_convert_bytes_back (w.alloc (.cells #[.int .u8 (c.toNat : Int)] e)) src dst e ⟨w.heap.size, 0, none⟩ 1 [c] hs he hd fun j hj => ?_
  obtain rfl : j = 0 := by simp at hj; omega
  simp [go_sem, Addr.add]
theorem str_app (a b : List UInt8) : (⟨a.toArray⟩ : ByteArray) ++ (⟨b.toArray⟩ : ByteArray) = ⟨(a ++ b).toArray⟩ := by
  apply ByteArray.ext
  simp [ByteArray.data_append]
theorem str_of (s : ByteArray) : (⟨s.data.toList.toArray⟩ : ByteArray) = s := by
  apply ByteArray.ext; simp
theorem digit_small (m : Nat) (h : m < 10) : (48 : Int) + (m : Int) = ((UInt8.ofNat (48 + m)).toNat : Int) := by
  rw [UInt8.toNat_ofNat_of_lt' (by have : UInt8.size = 256 := rfl; omega)]; omega
theorem digit_of (m : Nat) : (48 : Int) + (m : Int) % 10 = ((UInt8.ofNat (48 + m % 10)).toNat : Int) := by
  rw [← digit_small (m % 10) (by omega)]; omega
end Go.Proofs.Palim

/-
  The document's decimal numeral of a number that is not negative.
-/
set_option maxRecDepth 100000
namespace Go.Proofs.YtgjlhokakcdpbaaGreatDoor
open Go.ChangeShapes Go.WideShapes Go.ChangeAt Go.RowKit Go.Proofs.Palim

set_option maxHeartbeats 400000 in
theorem l19Dec_nat (n : Nat) (w : World) (hn : n < 9223372036854775807) :
    Calls Tryz.prog 44 #[.int .i64 (n : Int)] w fun e w' => e = .returned (.string ⟨(Lib.decDigits n).toArray⟩) ∧ Below w.heap.size w w' := by
  go_enter Tryz.func44, Tryz.ntmps44
  go_wp2
  go_loopw [0, 3] (fun i v wr => ∃ (m : Nat) (o : List UInt8), m ≤ n ∧ i = .int .i64 (m : Int) ∧ v = .string ⟨o.toArray⟩ ∧ Below w.heap.size w wr ∧ Hid (Lib.decDigits n = Lib.decDigits m ++ o)) (fun i _ _ => (intOf i).toNat)
  case atStart => exact ⟨n, [], Nat.le_refl _, rfl, rfl, Below.refl _ _, Lib.hid (by simp)⟩
  case round =>
    obtain ⟨m, o, hm, rfl, rfl, hb, HD⟩ := hrel
    have ho : o.length ≤ 21 := by
      have h1 := congrArg List.length HD.out
      have h2 := Lib.itoa_length_le (n : Int) (by omega) (by omega)
      rw [Lib.itoa_nonneg] at h2
      rw [List.length_append] at h1
      omega
    by_cases hlt : 9 < m
    · obtain ⟨c, HC⟩ : ∃ c, Hid (c = UInt8.ofNat (48 + m % 10)) := ⟨_, Lib.hid rfl⟩
      have hcv := run_convert_one (P := Tryz.prog) wr 22 9 5 Tryz.underlying22 Tryz.underlying5 Tryz.underlying9 (48 + (m : Int) % 10) c (by rw [HC.out]; exact digit_of m)
      have HN := Lib.hid (show Lib.decDigits m = Lib.decDigits (m / 10) ++ [c] from by rw [HC.out, Lib.decDigits, dif_neg (by omega)])
      go_wp2
      go_roundw
      case rel => exact ⟨m / 10, c :: o, by omega, by go_num, by rw [show (⟨#[c]⟩ : ByteArray) = ⟨[c].toArray⟩ from rfl, str_app]; rfl, hb.alloc hb.size _, Lib.hid (by rw [HD.out, HN.out]; simp)⟩
      case measure => simp [intOf]; omega
    · obtain ⟨c, HC⟩ : ∃ c, Hid (c = UInt8.ofNat (48 + m)) := ⟨_, Lib.hid rfl⟩
      have hcv := run_convert_one (P := Tryz.prog) wr 22 9 5 Tryz.underlying22 Tryz.underlying5 Tryz.underlying9 (48 + (m : Int)) c (by rw [HC.out]; exact digit_small m (by omega))
      have HN := Lib.hid (show Lib.decDigits m = [c] from by rw [HC.out]; exact Lib.decDigits_one (by omega))
      go_wp2
      go_ret
      refine ⟨?_, hb.alloc hb.size _⟩
      show Ending.returned (.string ((⟨[c].toArray⟩ : ByteArray) ++ ⟨o.toArray⟩)) = _
      rw [str_app, HD.out, HN.out]

theorem l19Dec_int (z : Int) (w : World) (h0 : 0 ≤ z) (h1 : z < 9223372036854775807) :
    Calls Tryz.prog 44 #[.int .i64 z] w fun e w' => e = .returned (.string ⟨(Lib.itoa z).toArray⟩) ∧ Below w.heap.size w w' := by
  obtain ⟨n, rfl⟩ : ∃ n : Nat, z = (n : Int) := ⟨z.toNat, by omega⟩
  rw [Lib.itoa_nonneg]
  exact l19Dec_nat n w (by omega)
end Go.Proofs.YtgjlhokakcdpbaaGreatDoor

/-
  Sealing a text: its checksum in decimals, a colon, the text; of the program and of the document.
-/
set_option maxRecDepth 100000
namespace Go.Proofs.YtgjlhokakcdpbaaGreatDoor
open Go.ChangeShapes Go.WideShapes Go.ChangeAt Go.RowKit Go.Proofs.Palim

/-- What a text is sealed as. -/
def sealB (s : ByteArray) : ByteArray := if 400 < s.size then ⟨#[]⟩ else ⟨(Lib.itoa (sumOf s) ++ 58 :: s.data.toList).toArray⟩
def SealPost (s : ByteArray) (w : World) (e : Ending) (w' : World) : Prop := e = .returned (.string (sealB s)) ∧ Below w.heap.size w w'
/-- The table of powers of ten that the library's numerals read. -/
def HasPow (w : World) : Prop := Lib.TabIs Tryz.prog w "internal/strconv.uint64pow10" .u64 Lib.pow10Tab
theorem gPow : Tryz.prog.globalNamed "internal/strconv.uint64pow10" = some 1 := by kernel_rfl
theorem HasPow.lt {w : World} (h : HasPow w) : 1 < w.heap.size := by
  unfold HasPow Lib.TabIs World.var? at h
  rw [gPow] at h
  simp only [Option.bind_some] at h
  rcases Nat.lt_or_ge 1 w.heap.size with hl | hl
  · exact hl
  · rw [Array.getElem?_eq_none hl] at h; cases h
theorem HasPow.below {w w' : World} {B : Nat} (h : HasPow w) (hb : Below B w w') (hB : 1 < B) : HasPow w' := var?_below hb gPow hB h
theorem seal_text (s : ByteArray) (h : ¬ 400 < s.size) : (⟨(Lib.itoa (sumOf s)).toArray⟩ : ByteArray) ++ (⟨#[58]⟩ : ByteArray) ++ s = sealB s := by
  unfold sealB
  rw [if_neg h]
  conv => lhs; rw [← str_of s]
  rw [show (⟨#[58]⟩ : ByteArray) = ⟨[58].toArray⟩ from rfl, str_app, str_app]
  simp

set_option maxHeartbeats 400000 in
theorem implSeal_any (s : ByteArray) (w : World) (hs : s.size ≤ maxLen) (hp : HasPow w) :
    Calls Tryz.prog 38 #[.string s] w (SealPost s w) := by
  by_cases hl : 400 < s.size
  · have HE := Lib.hid (show sealB s = ⟨#[]⟩ from by unfold sealB; rw [if_pos hl])
    unfold maxLen at hs
    go_enter Tryz.func38, Tryz.ntmps38
    go_wp2
    go_ret
    exact ⟨by rw [HE.out]; rfl, Below.refl _ _⟩
  · have hbd := sumOf_bd s
    have hil := Lib.itoa_length_le (sumOf s) (by omega) (by omega)
    have hs4 : s.size ≤ 400 := by omega
    have HE := Lib.hid (seal_text s hl)
    go_enter Tryz.func38, Tryz.ntmps38
    go_wp2_with fail
    refine (implSumOf_any _ _ hs).mono ?_
    rintro e w' ⟨rfl, rfl⟩
    go_wp2_with fail
    refine (Tryz.strconv_Itoa _ (by omega) (by omega) _ hp).mono ?_
    rintro e w1 ⟨rfl, k, os, hw1⟩
    have hb : Below w.heap.size w w1 := by rw [hw1]; exact Lib.below_grow _ _ (Nat.le_refl _) _ _
    clear hw1
    go_wp2
    go_ret
    exact ⟨by rw [← HE.out]; rfl, hb⟩

set_option maxHeartbeats 400000 in
theorem specSeal_any (s : ByteArray) (w : World) (hs : s.size ≤ maxLen) :
    Calls Tryz.prog 45 #[.string s] w (SealPost s w) := by
  by_cases hl : 400 < s.size
  · have HE := Lib.hid (show sealB s = ⟨#[]⟩ from by unfold sealB; rw [if_pos hl])
    unfold maxLen at hs
    go_enter Tryz.func45, Tryz.ntmps45
    go_wp2
    go_ret
    exact ⟨by rw [HE.out]; rfl, Below.refl _ _⟩
  · have hbd := sumOf_bd s
    have hil := Lib.itoa_length_le (sumOf s) (by omega) (by omega)
    have hs4 : s.size ≤ 400 := by omega
    have HE := Lib.hid (seal_text s hl)
    go_enter Tryz.func45, Tryz.ntmps45
    go_wp2_with fail
    refine (specSumOf_any _ _ hs).mono ?_
    rintro e w' ⟨rfl, rfl⟩
    go_wp2_with fail
    refine (l19Dec_int _ _ (by omega) (by omega)).mono ?_
    rintro e w1 ⟨rfl, hb⟩
    go_wp2
    go_ret
    exact ⟨by rw [← HE.out]; rfl, hb⟩
end Go.Proofs.YtgjlhokakcdpbaaGreatDoor

/-
  The laws' own helpers on lists of strings: copied, compared, measured, marked and asked for the marks.
-/
set_option maxRecDepth 100000
namespace Go.Proofs.YtgjlhokakcdpbaaGreatDoor
open Go.ChangeShapes Go.WideShapes Go.ChangeAt Go.RowKit Go.Proofs.Palim

theorem infoStr : (Tryz.prog.info? 9).map (fun i => (i.zero, i.size, i.bytes)) = some (some (.string ⟨#[]⟩), 1, 16) := by kernel_rfl

/-- A new list of strings of the call's own. -/
def NewStrs (w : World) (ss : List ByteArray) (e : Ending) (w' : World) : Prop :=
  ∃ v, e = .returned v ∧ w'.ownsRow w.heap.size 9 1 v ss.length (scs ss) ∧ Below w.heap.size w w'

set_option maxHeartbeats 400000 in
theorem toStringS_any (v : Value) (ss : List ByteArray) (w : World) (h : Sl w 1 v ss.length (scs ss)) (hs : ss.length ≤ 1048576) :
    Calls Tryz.prog 139 #[v] w (NewStrs w ss) := by
  obtain ⟨i0, hi, hz0, hz1, hz2⟩ := info_parts infoStr
  obtain ⟨n, HN⟩ : ∃ n, Hid (ss.length = n) := ⟨_, Lib.hid rfl⟩
  rw [HN.out] at h hs
  by_cases hn : n = 0
  · subst hn
    have HE := Lib.hid (List.length_eq_zero_iff.1 HN.out)
    obtain ⟨_, A, c, rfl, _, _, _⟩ := h
    go_enter Tryz.func139, Tryz.ntmps139
    go_wp2_with (first | (at_make; refine wpList_make_full _ rfl _ _ 32 rfl w.heap.size 9 i0 (.string ⟨#[]⟩) 1 Tryz.underlying32 hi hz0 hz1 _ _ _ _ 0 rfl rfl (by omega) (by omega) (by omega) (by unfold maxLen; omega) (Nat.le_refl _) ?_))
    intro w1 hown hgrow
    go_wp2
    go_loopw [4] (fun i wr => i = .int .i64 0 ∧ wr = w1) (fun _ _ => 0)
    case atStart => exact ⟨rfl, rfl⟩
    case round =>
      obtain ⟨rfl, rfl⟩ := hrel
      go_wp2
      go_ret
      refine ⟨_, rfl, ?_, (Below.refl _ _).grown hgrow (Nat.le_refl _) (fun _ h => by cases h)⟩
      rw [HE.out]
      have e0 := List.length_eq_zero_iff.1 (show (madeCells #[Value.string ⟨#[]⟩] 0).toList.length = 0 from by simpa using hown.1)
      have h2 := hown
      rw [e0] at h2
      exact h2
  · obtain ⟨b, off, c, rfl, hnc, hcm, hcell⟩ := h.form (by omega)
    have hbl : b < w.heap.size := h.lt (by omega) (by omega) b rfl
    have HC := Lib.hid hcell
    unfold maxLen at hcm
    clear hcell h
    go_enter Tryz.func139, Tryz.ntmps139
    go_wp2_with (first | (at_make; refine wpList_make_full _ rfl _ _ 32 rfl w.heap.size 9 i0 (.string ⟨#[]⟩) 1 Tryz.underlying32 hi hz0 hz1 _ _ _ _ n rfl rfl rfl rfl (by rw [hz2]; omega) (by unfold maxLen; omega) (Nat.le_refl _) ?_))
    intro w1 hown hgrow
    go_wp2
    go_loopw [4] (fun i wr => ∃ (k : Nat) (xs : List Value), k ≤ n ∧ i = .int .i64 k ∧ Hid (wr.ownsRow w.heap.size 9 1 (.slice (some ⟨w.heap.size, 0, none⟩) n n) n xs) ∧ Hid (xs.take k = scs (ss.take k)) ∧ Hid (Below w.heap.size w wr)) (fun i _ => n - (intOf i).toNat)
    case atStart => exact ⟨0, _, Nat.zero_le _, rfl, Lib.hid hown, Lib.hid rfl, Lib.hid ((Below.refl _ _).grown hgrow (Nat.le_refl _) (fun _ h => by cases h))⟩
    case round =>
      obtain ⟨k, xs, hk, rfl, HO, HT, HB⟩ := hrel
      clear hown hgrow
      by_cases hlt : k < n
      · have hlt' : k < ss.length := by rw [HN.out]; exact hlt
        have hrd : wr.cell? ⟨b, off + k, none⟩ = some (.string ss[k]) := (HB.out.cell hbl).trans (HC.out k _ (scs_at ss k hlt'))
        obtain ⟨⟨u, _, hcu⟩, hfu, _, _⟩ := own_at HO.out k (by omega)
        have HO2 := Lib.hid (own_set HO.out k (.string ss[k]))
        have HB2 := Lib.hid (HB.out.setCell (p := ⟨w.heap.size, k, none⟩) (Nat.le_refl _) (.string ss[k]))
        have HT2 := Lib.hid (show (xs.set k (.string ss[k])).take (k + 1) = scs (ss.take (k + 1)) from by
          have hl : k < xs.length := by have := HO.out.1; omega
          rw [take_set_succ xs k _ hl, HT.out, List.take_succ_eq_append_getElem hlt', scs_snoc])
        clear HO HT HB
        go_wp2
        go_roundw
        case rel => exact ⟨k + 1, _, by omega, by go_num, HO2, HT2, HB2⟩
        case measure => simp [intOf]; omega
      · have hkn : k = n := by omega
        have HX := Lib.hid (show xs = scs ss from by
          have hl := HO.out.1
          have ht := HT.out
          rw [List.take_of_length_le (by omega), List.take_of_length_le (by rw [HN.out]; omega)] at ht
          exact ht)
        clear hkn
        go_wp2
        go_ret
        refine ⟨_, rfl, ?_, HB.out⟩
        rw [HN.out, ← HX.out]
        exact HO.out

theorem drewN_zero (w : World) : w.drewN 0 = w := rfl
/-- Only the count of draws has moved. -/
def Drawn (v : Value) (w : World) (e : Ending) (w' : World) : Prop := e = .returned v ∧ ∃ q, w' = w.drewN q

set_option maxHeartbeats 400000 in
theorem eqStringS_same (va vb : Value) (ss : List ByteArray) (w : World) (ha : Sl w 1 va ss.length (scs ss)) (hb : Sl w 1 vb ss.length (scs ss)) (hs : ss.length ≤ 1048576) :
    Calls Tryz.prog 153 #[va, vb] w (Drawn (.bool true) w) := by
  obtain ⟨n, HN⟩ : ∃ n, Hid (ss.length = n) := ⟨_, Lib.hid rfl⟩
  rw [HN.out] at ha hb hs
  by_cases hn : n = 0
  · subst hn
    obtain ⟨_, A, c, rfl, _, _, _⟩ := ha
    obtain ⟨_, A', c', rfl, _, _, _⟩ := hb
    go_enter Tryz.func153, Tryz.ntmps153
    go_wp2
    go_loopw [5] (fun i wr => i = .int .i64 0 ∧ wr = w) (fun _ _ => 0)
    case atStart => exact ⟨rfl, rfl⟩
    case round =>
      obtain ⟨rfl, rfl⟩ := hrel
      go_wp2
      go_ret
      exact ⟨rfl, 0, rfl⟩
  · obtain ⟨b, off, c, rfl, hnc, hcm, hcell⟩ := ha.form (by omega)
    obtain ⟨b', off', c', rfl, hnc', hcm', hcell'⟩ := hb.form (by omega)
    have HC := Lib.hid hcell
    have HC' := Lib.hid hcell'
    unfold maxLen at hcm hcm'
    clear hcell hcell' ha hb
    go_enter Tryz.func153, Tryz.ntmps153
    go_wp2
    go_loopw [5] (fun i wr => ∃ (k q : Nat), k ≤ n ∧ i = .int .i64 k ∧ wr = w.drewN q) (fun i _ => n - (intOf i).toNat)
    case atStart => exact ⟨0, 0, Nat.zero_le _, rfl, rfl⟩
    case round =>
      obtain ⟨k, q, hk, rfl, rfl⟩ := hrel
      by_cases hlt : k < n
      · have hlt' : k < ss.length := by rw [HN.out]; exact hlt
        have h1 : w.cell? ⟨b, off + k, none⟩ = some (.string ss[k]) := HC.out k _ (scs_at ss k hlt')
        have h2 : w.cell? ⟨b', off' + k, none⟩ = some (.string ss[k]) := HC'.out k _ (scs_at ss k hlt')
        have hk1 : (k : Int) < (n : Int) := by omega
        go_wp2_with fail
        go_quiet (fail)
        go_wp2
        go_roundw
        case rel => exact ⟨k + 1, _, by omega, by go_num, rfl⟩
        case measure => simp [intOf]; omega
      · go_wp2
        go_ret
        exact ⟨rfl, q, rfl⟩

/-- The bytes of a list of strings. -/
def tot (ss : List ByteArray) : Nat := (ss.map ByteArray.size).sum
theorem tot_snoc (a : List ByteArray) (s : ByteArray) : tot (a ++ [s]) = tot a + s.size := by simp [tot]
/-- What is left behind n elements and t bytes; or less than nothing. -/
def SzPost (m : Nat) (left : Int) (w : World) (e : Ending) (w' : World) : Prop := ∃ r : Int, e = .returned (.int .i64 r) ∧ w = w' ∧ (r = -1 ∨ 0 ≤ r ∧ r + m = left)

set_option maxHeartbeats 400000 in
theorem szStringS_any (v : Value) (ss : List ByteArray) (left : Int) (w : World) (h : Sl w 1 v ss.length (scs ss)) (hz : ∀ s ∈ ss, s.size ≤ maxLen) (h0 : 0 ≤ left) (h1 : left ≤ 1048576) :
    Calls Tryz.prog 125 #[v, .int .i64 left] w (SzPost (ss.length + tot ss) left w) := by
  obtain ⟨n, HN⟩ : ∃ n, Hid (ss.length = n) := ⟨_, Lib.hid rfl⟩
  have HZ := Lib.hid hz
  clear hz
  rw [HN.out] at h
  have hnm := h.le
  unfold maxLen at hnm
  by_cases hbig : left < n
  · obtain ⟨_, A, c, rfl, _, _, _⟩ := h
    go_enter Tryz.func125, Tryz.ntmps125
    go_wp2
    go_ret
    exact ⟨-1, rfl, rfl, Or.inl rfl⟩
  by_cases hn : n = 0
  · subst hn
    have HE := Lib.hid (List.length_eq_zero_iff.1 HN.out)
    obtain ⟨_, A, c, rfl, _, _, _⟩ := h
    go_enter Tryz.func125, Tryz.ntmps125
    go_wp2
    go_loop [1, 5] (fun l i => l = .int .i64 left ∧ i = .int .i64 0) (fun _ _ => 0)
    case atStart => exact ⟨rfl, rfl⟩
    case round =>
      obtain ⟨rfl, rfl⟩ := hrel
      go_wp2
      go_ret
      exact ⟨left, rfl, rfl, Or.inr ⟨h0, by rw [HE.out]; simp [tot]⟩⟩
  · obtain ⟨b, off, c, rfl, hnc, hcm, hcell⟩ := h.form (by omega)
    have HC := Lib.hid hcell
    unfold maxLen at hcm
    clear hcell h
    go_enter Tryz.func125, Tryz.ntmps125
    go_wp2
    go_loop [1, 5] (fun l i => ∃ (k : Nat) (r : Int), k ≤ n ∧ i = .int .i64 k ∧ l = .int .i64 r ∧ 0 ≤ r ∧ r ≤ left ∧ Hid (r + n + tot (ss.take k) = left)) (fun _ i => n - (intOf i).toNat)
    case atStart => exact ⟨0, left - n, Nat.zero_le _, rfl, rfl, by omega, by omega, Lib.hid (by simp [tot])⟩
    case round =>
      obtain ⟨k, r, hk, rfl, rfl, hr0, hr1, HR⟩ := hrel
      by_cases hlt : k < n
      · have hlt' : k < ss.length := by rw [HN.out]; exact hlt
        have hrd : w.cell? ⟨b, off + k, none⟩ = some (.string ss[k]) := HC.out k _ (scs_at ss k hlt')
        have hsz := HZ.out ss[k] (List.getElem_mem _)
        unfold maxLen at hsz
        have HT := Lib.hid (show tot (ss.take (k + 1)) = tot (ss.take k) + ss[k].size from by rw [List.take_succ_eq_append_getElem hlt', tot_snoc])
        obtain ⟨s, HS⟩ : ∃ s, Hid (s = ss[k]) := ⟨_, Lib.hid rfl⟩
        rw [← HS.out] at hrd hsz
        by_cases hneg : r < s.size
        · go_wp2
          go_ret
          exact ⟨-1, rfl, rfl, Or.inl rfl⟩
        · go_wp2
          go_round
          case rel => exact ⟨k + 1, r - s.size, by omega, by go_num, by go_num, by omega, by omega, Lib.hid (by have h1 := HR.out; have h2 := HT.out; rw [← HS.out] at h2; rw [h2]; omega)⟩
          case measure => simp [intOf]; omega
      · have HK := Lib.hid (show ss.take k = ss from List.take_of_length_le (by rw [HN.out]; omega))
        go_wp2
        go_ret
        exact ⟨r, rfl, rfl, Or.inr ⟨hr0, by have h1 := HR.out; rw [HK.out] at h1; rw [HN.out]; omega⟩⟩

/-- The text of a mark. -/
def mkText (k : Nat) : ByteArray := ⟨(109 :: Lib.decDigits k).toArray⟩

set_option maxHeartbeats 400000 in
theorem markText_any (n : Nat) (w : World) (h0 : 1 ≤ n) (hn : n < 1000000000) :
    Calls Tryz.prog 100 #[.int .i64 (n : Int)] w fun e w' => e = .returned (.string (mkText n)) ∧ Below w.heap.size w w' := by
  go_enter Tryz.func100, Tryz.ntmps100
  go_wp2
  go_loopw [0, 3] (fun i v wr => ∃ (m : Nat) (o : List UInt8), m ≤ n ∧ i = .int .i64 (m : Int) ∧ v = .string ⟨o.toArray⟩ ∧ Below w.heap.size w wr ∧ Hid (Lib.decDigits n = (if m = 0 then [] else Lib.decDigits m) ++ o)) (fun i _ _ => (intOf i).toNat)
  case atStart => exact ⟨n, [], Nat.le_refl _, rfl, rfl, Below.refl _ _, Lib.hid (by rw [if_neg (by omega)]; simp)⟩
  case round =>
    obtain ⟨m, o, hm, rfl, rfl, hb, HD⟩ := hrel
    have ho : o.length ≤ 21 := by
      have h1 := congrArg List.length HD.out
      have h2 := Lib.itoa_length_le (n : Int) (by omega) (by omega)
      rw [Lib.itoa_nonneg] at h2
      rw [List.length_append] at h1
      omega
    by_cases hlt : 0 < m
    · obtain ⟨c, HC⟩ : ∃ c, Hid (c = UInt8.ofNat (48 + m % 10)) := ⟨_, Lib.hid rfl⟩
      have hcv := run_convert_one (P := Tryz.prog) wr 22 9 5 Tryz.underlying22 Tryz.underlying5 Tryz.underlying9 (48 + (m : Int) % 10) c (by rw [HC.out]; exact digit_of m)
      have HN := Lib.hid (show Lib.decDigits m = (if m / 10 = 0 then [] else Lib.decDigits (m / 10)) ++ [c] from by
        rw [HC.out]
        by_cases h10 : m < 10
        · rw [if_pos (by omega), Lib.decDigits_one h10, Nat.mod_eq_of_lt h10]; rfl
        · rw [if_neg (by omega), Lib.decDigits, dif_neg h10])
      go_wp2
      go_roundw
      case rel => exact ⟨m / 10, c :: o, by omega, by go_num, by rw [show (⟨#[c]⟩ : ByteArray) = ⟨[c].toArray⟩ from rfl, str_app]; rfl, hb.alloc hb.size _, Lib.hid (by rw [HD.out, if_neg (by omega), HN.out]; simp)⟩
      case measure => simp [intOf]; omega
    · have hm0 : m = 0 := by omega
      have HF := Lib.hid (show Lib.decDigits n = o from by rw [HD.out, if_pos hm0]; rfl)
      clear hm0
      go_wp2
      go_ret
      refine ⟨?_, hb⟩
      show Ending.returned (.string ((⟨[109].toArray⟩ : ByteArray) ++ ⟨o.toArray⟩)) = _
      rw [str_app, ← HF.out]
      rfl

/-- The marks from k on. -/
def marks (k n : Nat) : List ByteArray := (List.range n).map fun i => mkText (k + i)
theorem marks_length (k n : Nat) : (marks k n).length = n := by simp [marks]
theorem marks_succ (k n : Nat) : marks k (n + 1) = marks k n ++ [mkText (k + n)] := by simp [marks, List.range_succ]
theorem marks_at (k n i : Nat) (h' : i < (marks k n).length) : (marks k n)[i] = mkText (k + i) := by simp [marks]

/-- Marked: the slice holds the marks, and nothing else that was there has turned. -/
def Marked (k : Nat) (v : Value) (base n : Nat) (w : World) (e : Ending) (w' : World) : Prop :=
  e = .returned (.int .i64 ((k + n : Nat) : Int)) ∧ w'.ownsRow base 9 1 v n (scs (marks k n)) ∧ Turned (fun b => v.ownBlock = some b) w w'

set_option maxHeartbeats 400000 in
theorem markStringS_any (v : Value) (n k base : Nat) (xs0 : List Value) (w : World) (h : w.ownsRow base 9 1 v n xs0) (hs : n ≤ 1048576) (hk0 : 1 ≤ k) (hk1 : k ≤ 100000000) :
    Calls Tryz.prog 158 #[v, .int .i64 (k : Int)] w (Marked k v base n w) := by
  by_cases hn : n = 0
  · subst hn
    obtain ⟨_, A, c, rfl, _, _, _⟩ := sl_of_own h
    have HO := Lib.hid h
    clear h
    go_enter Tryz.func158, Tryz.ntmps158
    go_wp2
    go_loopw [1, 5] (fun l i wr => l = .int .i64 (k : Int) ∧ i = .int .i64 0 ∧ wr = w) (fun _ _ _ => 0)
    case atStart => exact ⟨rfl, rfl, rfl⟩
    case round =>
      obtain ⟨rfl, rfl, rfl⟩ := hrel
      go_wp2
      go_ret
      refine ⟨rfl, ?_, Turned.refl _ _⟩
      have h0 := HO.out
      have e0 := List.length_eq_zero_iff.1 (show xs0.length = 0 from by simpa using h0.1)
      rw [e0] at h0
      exact h0
  · obtain ⟨g, cap, rfl, hbg, hgl⟩ := h.form (by omega)
    have hcp : cap ≤ maxLen ∧ n ≤ cap := by
      rcases h.2 with ⟨hv, _⟩ | ⟨g', cap', cur, hv, _, _, h1, h2, _⟩
      · cases hv
      · injection hv with e1 e2 e3
        subst e3
        exact ⟨h2, h1⟩
    obtain ⟨hcp1, hcp2⟩ := hcp
    unfold maxLen at hcp1
    have HO0 := Lib.hid h
    clear h
    go_enter Tryz.func158, Tryz.ntmps158
    go_wp2
    go_loopw [1, 5] (fun l i wr => ∃ (j kk : Nat) (xs : List Value), j ≤ n ∧ kk = k + j ∧ l = .int .i64 (kk : Int) ∧ i = .int .i64 (j : Int) ∧ Hid (wr.ownsRow base 9 1 (.slice (some ⟨g, 0, none⟩) n cap) n xs) ∧ Hid (xs.take j = scs (marks k j)) ∧ Hid (Turned (fun b => b = g) w wr)) (fun _ i _ => n - (intOf i).toNat)
    case atStart => exact ⟨0, k, _, Nat.zero_le _, rfl, rfl, rfl, HO0, Lib.hid rfl, Lib.hid (Turned.refl _ _)⟩
    case round =>
      obtain ⟨j, kk, xs, hj, hkk, rfl, rfl, HO, HT, HW⟩ := hrel
      have HK := Lib.hid hkk
      have hkb : kk ≤ 101048576 := by omega
      have hkb1 : 1 ≤ kk := by omega
      clear hkk
      by_cases hlt : j < n
      · go_wp2_with fail
        refine (markText_any kk _ hkb1 (by omega)).mono ?_
        rintro e w2 ⟨rfl, hb2⟩
        have HO1 := Lib.hid (own_kept HO.out (w' := w2) (fun b e => hb2.block b (by have := HO.out.lt b e; omega)))
        obtain ⟨⟨u, _, hcu⟩, hfu, _, _⟩ := own_at HO1.out j (by omega)
        have HO2 := Lib.hid (own_set HO1.out j (.string (mkText kk)))
        have HW2 := Lib.hid (turned_setCell (HW.out.trans (turned_of_below hb2)) (p := ⟨g, j, none⟩) rfl (.string (mkText kk)))
        have HT2 := Lib.hid (show (xs.set j (.string (mkText kk))).take (j + 1) = scs (marks k (j + 1)) from by
          have hl : j < xs.length := by have := HO.out.1; omega
          rw [take_set_succ xs j _ hl, HT.out, marks_succ, scs_snoc, HK.out])
        clear HO HT HW HO1 hb2
        go_wp2
        go_roundw
        case rel => exact ⟨j + 1, kk + 1, _, by omega, by have := HK.out; omega, by go_num, by go_num, HO2, HT2, HW2⟩
        case measure => simp [intOf]; omega
      · have hjn : j = n := by omega
        have HX := Lib.hid (show xs = scs (marks k n) from by
          have hl := HO.out.1
          have ht := HT.out
          rw [List.take_of_length_le (by omega), hjn] at ht
          exact ht)
        have HKN := Lib.hid (show kk = k + n from by rw [HK.out, hjn])
        clear hjn
        go_wp2
        go_ret
        refine ⟨?_, ?_, HW.out.mono ?_⟩
        · exact ret_int (by rw [HKN.out])
        · rw [← HX.out]; exact HO.out
        · rintro b _ rfl; rfl

def HeldPost (r : Int) (w : World) (e : Ending) (w' : World) : Prop := e = .returned (.int .i64 r) ∧ Below w.heap.size w w'

set_option maxHeartbeats 400000 in
theorem heldStringS_any (v : Value) (n k : Nat) (w : World) (h : Sl w 1 v n (scs (marks k n))) (hv : ∀ b, v.ownBlock = some b → b < w.heap.size) (hs : n ≤ 1048576) (hk0 : 1 ≤ k) (hk1 : k ≤ 100000000) :
    Calls Tryz.prog 159 #[v, .int .i64 (k : Int)] w (HeldPost ((k + n : Nat) : Int) w) := by
  by_cases hn : n = 0
  · subst hn
    obtain ⟨_, A, c, rfl, _, _, _⟩ := h
    clear hv
    go_enter Tryz.func159, Tryz.ntmps159
    go_wp2
    go_loopw [1, 5] (fun l i wr => l = .int .i64 (k : Int) ∧ i = .int .i64 0 ∧ wr = w) (fun _ _ _ => 0)
    case atStart => exact ⟨rfl, rfl, rfl⟩
    case round =>
      obtain ⟨rfl, rfl, rfl⟩ := hrel
      go_wp2
      go_ret
      exact ⟨rfl, Below.refl _ _⟩
  · obtain ⟨b, off, c, rfl, hnc, hcm, hcell⟩ := h.form (by omega)
    have hbl : b < w.heap.size := hv b rfl
    have HC := Lib.hid hcell
    unfold maxLen at hcm
    clear hcell h hv
    go_enter Tryz.func159, Tryz.ntmps159
    go_wp2
    go_loopw [1, 5] (fun l i wr => ∃ (j kk : Nat), j ≤ n ∧ Hid (kk = k + j) ∧ l = .int .i64 (kk : Int) ∧ i = .int .i64 (j : Int) ∧ Hid (Below w.heap.size w wr)) (fun _ i _ => n - (intOf i).toNat)
    case atStart => exact ⟨0, k, Nat.zero_le _, Lib.hid rfl, rfl, rfl, Lib.hid (Below.refl _ _)⟩
    case round =>
      obtain ⟨j, kk, hj, HK, rfl, rfl, HB⟩ := hrel
      have hkb : kk ≤ 101048576 := by have := HK.out; omega
      have hkb1 : 1 ≤ kk := by have := HK.out; omega
      by_cases hlt : j < n
      · have hrd : wr.cell? ⟨b, off + j, none⟩ = some (.string (mkText kk)) := by
          refine (HB.out.cell hbl).trans (HC.out j _ ?_)
          rw [scs_at _ j (by rw [marks_length]; exact hlt), marks_at, HK.out]
        have hj1 : (j : Int) < (n : Int) := by omega
        have hbr : b < wr.heap.size := Nat.lt_of_lt_of_le hbl HB.out.size
        go_wp2_with fail
        go_region_held3 (fun w' => w'.cell? ⟨b, off + j, none⟩ = some (.string (mkText kk)))
          (first
            | go_keep
            | (rw [hb2.cell (by simp <;> omega)]; assumption))
          ((go_at_call 100; ((with_reducible refine (markText_any kk _ hkb1 (by omega)).mono ?_); rintro e w2 ⟨rfl, hb2⟩)))
        all_goals
          have HB2 := Lib.hid (HB.out.drew.trans (hb2.mono (by have := HB.out.size; simp; omega)))
          clear HB hb2 hrd
          go_wp2
          go_roundw
          case rel => exact ⟨j + 1, kk + 1, by omega, Lib.hid (by have := HK.out; omega), by go_num, by go_num, HB2⟩
          case measure => simp [intOf]; omega
      · have HKN := Lib.hid (show kk = k + n from by have := HK.out; omega)
        go_wp2
        go_ret
        exact ⟨ret_int (by rw [HKN.out]), HB.out⟩
end Go.Proofs.YtgjlhokakcdpbaaGreatDoor

/-
  The laws' own helpers on lists of late writes.
-/
set_option maxRecDepth 100000
namespace Go.Proofs.YtgjlhokakcdpbaaGreatDoor
open Go.ChangeShapes Go.WideShapes Go.ChangeAt Go.RowKit Go.Proofs.Palim

/-- A late write, as plain data. -/
structure LateM where
  side : Int
  at_ : Int
  text : ByteArray
def lc (x : LateM) : List Value := [.int .i64 x.side, .int .i64 x.at_, .string x.text]
def lcs (ls : List LateM) : List Value := ls.flatMap lc
theorem lcs_length (ls : List LateM) : (lcs ls).length = ls.length * 3 := by
  induction ls with
  | nil => rfl
  | cons x ls ih => simp [lcs, lc] at ih ⊢; omega
theorem lcs_snoc (a : List LateM) (x : LateM) : lcs (a ++ [x]) = lcs a ++ lc x := by simp [lcs]
theorem lcs_at (ls : List LateM) : ∀ (k : Nat) (h : k < ls.length), (lcs ls)[k * 3]? = some (.int .i64 ls[k].side) ∧ (lcs ls)[k * 3 + 1]? = some (.int .i64 ls[k].at_) ∧ (lcs ls)[k * 3 + 2]? = some (.string ls[k].text) := by
  induction ls with
  | nil => intro k h; simp at h
  | cons x ls ih =>
    intro k h
    have e : lcs (x :: ls) = [.int .i64 x.side, .int .i64 x.at_, .string x.text] ++ lcs ls := by simp [lcs, lc]
    cases k with
    | zero => rw [e]; exact ⟨rfl, rfl, rfl⟩
    | succ k =>
      have := ih k (by simpa using h)
      rw [e, show (k + 1) * 3 = k * 3 + 3 by omega]
      rw [List.getElem?_append_right (by simp), List.getElem?_append_right (by simp <;> omega), List.getElem?_append_right (by simp <;> omega)]
      simp only [List.length_cons, List.length_nil, List.getElem_cons_succ]
      rw [show k * 3 + 3 - (0 + 1 + 1 + 1) = k * 3 by omega, show k * 3 + 3 + 1 - (0 + 1 + 1 + 1) = k * 3 + 1 by omega, show k * 3 + 3 + 2 - (0 + 1 + 1 + 1) = k * 3 + 2 by omega]
      exact this
theorem late_read {w : World} {ls : List LateM} {b off : Nat} (hc : ∀ j u, (lcs ls)[j]? = some u → w.cell? ⟨b, off + j, none⟩ = some u) (k : Nat) (h : k < ls.length) :
    w.cell? ⟨b, off + k * 3, none⟩ = some (.int .i64 ls[k].side) ∧ w.cell? ⟨b, off + k * 3 + 1, none⟩ = some (.int .i64 ls[k].at_) ∧ w.cell? ⟨b, off + k * 3 + 2, none⟩ = some (.string ls[k].text) := by
  have hat := lcs_at ls k h
  exact ⟨hc _ _ hat.1, by rw [Nat.add_assoc]; exact hc _ _ hat.2.1, by rw [Nat.add_assoc]; exact hc _ _ hat.2.2⟩
/-- As a value. -/
def lv (x : LateM) : Value := .agg #[.int .i64 x.side, .int .i64 x.at_, .string x.text]

set_option maxHeartbeats 400000 in
theorem toDiskLate_any (a b : Int) (s : ByteArray) (w : World) :
    Calls Tryz.prog 140 #[.agg #[.int .i64 a, .int .i64 b, .string s]] w fun e w' => e = .returned (.agg #[.int .i64 a, .int .i64 b, .string s]) ∧ Below w.heap.size w w' := by
  go_enter Tryz.func140, Tryz.ntmps140
  go_wp2
  refine bodyPost_ret (v := .agg #[.int .i64 a, .int .i64 b, .string s]) (by simp [results, Tryz.results140, go_sem]) rfl ⟨rfl, ?_⟩
  exact (((Below.refl _ _).alloc (Nat.le_refl _) _).alloc (by simp) _).alloc (by simp; omega) _

set_option maxHeartbeats 400000 in
theorem szDiskLate_any (a b : Int) (s : ByteArray) (left : Int) (w : World) (hs : s.size ≤ maxLen) (h0 : 0 ≤ left) (h1 : left ≤ 1048576) :
    Calls Tryz.prog 126 #[.agg #[.int .i64 a, .int .i64 b, .string s], .int .i64 left] w fun e w' => e = .returned (.int .i64 (if left < s.size then -1 else left - s.size)) ∧ Below w.heap.size w w' := by
  unfold maxLen at hs
  by_cases hl : left < s.size
  · rw [if_pos hl]
    go_enter Tryz.func126, Tryz.ntmps126
    go_wp2
    go_ret
    exact ⟨rfl, (Below.refl _ _).alloc (Nat.le_refl _) _⟩
  · rw [if_neg hl]
    go_enter Tryz.func126, Tryz.ntmps126
    go_wp2
    go_ret
    exact ⟨rfl, (Below.refl _ _).alloc (Nat.le_refl _) _⟩

set_option maxHeartbeats 400000 in
theorem eqDiskLate_same (a b : Int) (s : ByteArray) (w : World) :
    Calls Tryz.prog 154 #[.agg #[.int .i64 a, .int .i64 b, .string s], .agg #[.int .i64 a, .int .i64 b, .string s]] w fun e w' => e = .returned (.bool true) ∧ Below w.heap.size w w' := by
  go_enter Tryz.func154, Tryz.ntmps154
  go_wp2
  go_ret
  exact ⟨rfl, ((Below.refl _ _).alloc (Nat.le_refl _) _).alloc (by simp) _⟩

set_option maxHeartbeats 400000 in
theorem szDiskLateS_any (v : Value) (ls : List LateM) (left : Int) (w : World) (h : Sl w 3 v ls.length (lcs ls)) (hv : ∀ b, v.ownBlock = some b → b < w.heap.size) (hz : ∀ x ∈ ls, x.text.size ≤ maxLen) (h0 : 0 ≤ left) (h1 : left ≤ 1048576) :
    Calls Tryz.prog 60 #[v, .int .i64 left] w fun e w' => (∃ r : Int, e = .returned (.int .i64 r) ∧ (r = -1 ∨ 0 ≤ r ∧ r + ls.length + tot (ls.map (·.text)) = left)) ∧ Below w.heap.size w w' := by
  obtain ⟨n, HN⟩ : ∃ n, Hid (ls.length = n) := ⟨_, Lib.hid rfl⟩
  have HZ := Lib.hid hz
  clear hz
  rw [HN.out] at h
  have hnm := h.le
  unfold maxLen at hnm
  by_cases hbig : left < n
  · obtain ⟨_, A, c, rfl, _, _, _⟩ := h
    go_enter Tryz.func60, Tryz.ntmps60
    go_wp2
    go_ret
    exact ⟨⟨-1, rfl, Or.inl rfl⟩, Below.refl _ _⟩
  by_cases hn : n = 0
  · subst hn
    have HE := Lib.hid (List.length_eq_zero_iff.1 HN.out)
    obtain ⟨_, A, c, rfl, _, _, _⟩ := h
    clear hv
    go_enter Tryz.func60, Tryz.ntmps60
    go_wp2
    go_loop [1, 5] (fun l i => l = .int .i64 left ∧ i = .int .i64 0) (fun _ _ => 0)
    case atStart => exact ⟨rfl, rfl⟩
    case round =>
      obtain ⟨rfl, rfl⟩ := hrel
      go_wp2
      go_ret
      exact ⟨⟨left, rfl, Or.inr ⟨h0, by rw [HE.out]; simp [tot]⟩⟩, Below.refl _ _⟩
  · obtain ⟨b, off, c, rfl, hnc, hcm, hcell⟩ := h.form (by omega)
    have hbl : b < w.heap.size := hv b rfl
    have HC := Lib.hid hcell
    unfold maxLen at hcm
    clear hcell h hv
    go_enter Tryz.func60, Tryz.ntmps60
    go_wp2
    go_loopw [1, 5] (fun l i wr => ∃ (k : Nat) (r : Int), k ≤ n ∧ i = .int .i64 k ∧ l = .int .i64 r ∧ 0 ≤ r ∧ r ≤ left ∧ Hid (r + n + tot ((ls.take k).map (·.text)) = left) ∧ Hid (Below w.heap.size w wr)) (fun _ i _ => n - (intOf i).toNat)
    case atStart => exact ⟨0, left - n, Nat.zero_le _, rfl, rfl, by omega, by omega, Lib.hid (by simp [tot]), Lib.hid (Below.refl _ _)⟩
    case round =>
      obtain ⟨k, r, hk, rfl, rfl, hr0, hr1, HR, HB⟩ := hrel
      by_cases hlt : k < n
      · have hlt' : k < ls.length := by rw [HN.out]; exact hlt
        have hrd := late_read (fun j u hu => (HB.out.cell hbl).trans (HC.out j u hu)) k hlt'
        have HT := Lib.hid (show tot ((ls.take (k + 1)).map (·.text)) = tot ((ls.take k).map (·.text)) + ls[k].text.size from by rw [List.take_succ_eq_append_getElem hlt', List.map_append, List.map_cons, List.map_nil, tot_snoc])
        have HS := Lib.hid (HZ.out ls[k] (List.getElem_mem _))
        generalize ls[k] = x at hrd HT HS
        obtain ⟨xa, xb, xs⟩ := x
        obtain ⟨h1, h2, h3⟩ := hrd
        have hxs : xs.size ≤ maxLen := HS.out
        unfold maxLen at hxs
        go_wp2_with fail
        refine (szDiskLate_any xa xb xs r _ HS.out hr0 (by omega)).mono ?_
        rintro e w2 ⟨rfl, hb2⟩
        have HB2 := Lib.hid (HB.out.trans (hb2.mono HB.out.size))
        clear HB hb2 h1 h2 h3
        by_cases hneg : r < xs.size
        · rw [if_pos hneg]
          go_wp2
          go_ret
          exact ⟨⟨-1, rfl, Or.inl rfl⟩, HB2.out⟩
        · rw [if_neg hneg]
          go_wp2
          go_roundw
          case rel => exact ⟨k + 1, r - xs.size, by omega, by go_num, rfl, by omega, by omega, Lib.hid (by have h1 := HR.out; have h2 := HT.out; rw [h2]; omega), HB2⟩
          case measure => simp [intOf]; omega
      · have HK := Lib.hid (show ls.take k = ls from List.take_of_length_le (by rw [HN.out]; omega))
        go_wp2
        go_ret
        exact ⟨⟨r, rfl, Or.inr ⟨hr0, by have h1 := HR.out; rw [HK.out] at h1; rw [HN.out]; omega⟩⟩, HB.out⟩

theorem infoLate : (Tryz.prog.info? 103).map (fun i => (i.zero, i.size, i.bytes)) = some (some (.agg #[.int .i64 0, .int .i64 0, .string ⟨#[]⟩]), 3, 32) := by kernel_rfl

/-- A new list of late writes of the call's own. -/
def NewLates (w : World) (ls : List LateM) (e : Ending) (w' : World) : Prop :=
  ∃ v, e = .returned v ∧ w'.ownsRow w.heap.size 103 3 v ls.length (lcs ls) ∧ Below w.heap.size w w'

set_option maxHeartbeats 400000 in
theorem toDiskLateS_any (v : Value) (ls : List LateM) (w : World) (h : Sl w 3 v ls.length (lcs ls)) (hv : ∀ b, v.ownBlock = some b → b < w.heap.size) (hs : ls.length ≤ 1048576) :
    Calls Tryz.prog 71 #[v] w (NewLates w ls) := by
  obtain ⟨i0, hi, hz0, hz1, hz2⟩ := info_parts infoLate
  obtain ⟨n, HN⟩ : ∃ n, Hid (ls.length = n) := ⟨_, Lib.hid rfl⟩
  rw [HN.out] at h hs
  by_cases hn : n = 0
  · subst hn
    have HE := Lib.hid (List.length_eq_zero_iff.1 HN.out)
    obtain ⟨_, A, c, rfl, _, _, _⟩ := h
    clear hv
    go_enter Tryz.func71, Tryz.ntmps71
    go_wp2_with (first | (at_make; refine wpList_make_full _ rfl _ _ 34 rfl w.heap.size 103 i0 (.agg #[.int .i64 0, .int .i64 0, .string ⟨#[]⟩]) 3 Tryz.underlying34 hi hz0 hz1 _ _ _ _ 0 rfl rfl (by omega) (by omega) (by omega) (by unfold maxLen; omega) (Nat.le_refl _) ?_))
    intro w1 hown hgrow
    go_wp2
    go_loopw [4] (fun i wr => i = .int .i64 0 ∧ wr = w1) (fun _ _ => 0)
    case atStart => exact ⟨rfl, rfl⟩
    case round =>
      obtain ⟨rfl, rfl⟩ := hrel
      go_wp2
      go_ret
      refine ⟨_, rfl, ?_, (Below.refl _ _).grown hgrow (Nat.le_refl _) (fun _ h => by cases h)⟩
      rw [HE.out]
      have h2 := hown
      rw [List.length_eq_zero_iff.1 (hown.1.trans (Nat.zero_mul _))] at h2
      exact h2
  · obtain ⟨b, off, c, rfl, hnc, hcm, hcell⟩ := h.form (by omega)
    have hbl : b < w.heap.size := hv b rfl
    have HC := Lib.hid hcell
    unfold maxLen at hcm
    clear hcell h hv
    go_enter Tryz.func71, Tryz.ntmps71
    go_wp2_with (first | (at_make; refine wpList_make_full _ rfl _ _ 34 rfl w.heap.size 103 i0 (.agg #[.int .i64 0, .int .i64 0, .string ⟨#[]⟩]) 3 Tryz.underlying34 hi hz0 hz1 _ _ _ _ n rfl rfl rfl rfl (by rw [hz2]; omega) (by unfold maxLen; omega) (Nat.le_refl _) ?_))
    intro w1 hown hgrow
    go_wp2
    go_loopw [4] (fun i wr => ∃ (k : Nat) (xs : List Value), k ≤ n ∧ i = .int .i64 k ∧ Hid (wr.ownsRow w.heap.size 103 3 (.slice (some ⟨w.heap.size, 0, none⟩) n n) n xs) ∧ Hid (xs.take (k * 3) = lcs (ls.take k)) ∧ Hid (Below w.heap.size w wr)) (fun i _ => n - (intOf i).toNat)
    case atStart => exact ⟨0, _, Nat.zero_le _, rfl, Lib.hid hown, Lib.hid rfl, Lib.hid ((Below.refl _ _).grown hgrow (Nat.le_refl _) (fun _ h => by cases h))⟩
    case round =>
      obtain ⟨k, xs, hk, rfl, HO, HT, HB⟩ := hrel
      clear hown hgrow
      by_cases hlt : k < n
      · have hlt' : k < ls.length := by rw [HN.out]; exact hlt
        have hrd := late_read (fun j u hu => (HB.out.cell hbl).trans (HC.out j u hu)) k hlt'
        obtain ⟨x, HX⟩ : ∃ x, Hid (x = ls[k]) := ⟨_, Lib.hid rfl⟩
        rw [← HX.out] at hrd
        obtain ⟨h1, h2, h3⟩ := hrd
        go_wp2_with fail
        refine (toDiskLate_any x.side x.at_ x.text _).mono ?_
        rintro e w2 ⟨rfl, hb2⟩
        have HB1 := Lib.hid (HB.out.trans (hb2.mono HB.out.size))
        have HO1 := Lib.hid (own_kept HO.out (w' := w2) (fun b e => hb2.block b (by have := HO.out.lt b e; omega)))
        obtain ⟨⟨u0, _, hc0⟩, hf0, _, _⟩ := own_at HO1.out (k * 3) (by omega)
        obtain ⟨⟨u1, _, hc1⟩, hf1, _, _⟩ := own_at HO1.out (k * 3 + 1) (by omega)
        obtain ⟨⟨u2, _, hc2⟩, hf2, _, _⟩ := own_at HO1.out (k * 3 + 2) (by omega)
        have HO2 := Lib.hid (own_setN (own_setN (own_setN HO1.out (k * 3) (.int .i64 x.side)) (k * 3 + 1) (.int .i64 x.at_)) (k * 3 + 2) (.string x.text))
        have HB2 := Lib.hid (((HB1.out.setCell (p := ⟨w.heap.size, k * 3, none⟩) (Nat.le_refl _) (.int .i64 x.side)).setCell (p := ⟨w.heap.size, k * 3 + 1, none⟩) (Nat.le_refl _) (.int .i64 x.at_)).setCell (p := ⟨w.heap.size, k * 3 + 2, none⟩) (Nat.le_refl _) (.string x.text))
        have HT2 := Lib.hid (show (((xs.set (k * 3) (.int .i64 x.side)).set (k * 3 + 1) (.int .i64 x.at_)).set (k * 3 + 2) (.string x.text)).take ((k + 1) * 3) = lcs (ls.take (k + 1)) from by
          have hl : k * 3 + 2 < xs.length := by have := HO.out.1; omega
          rw [take_set3 xs k _ _ _ hl, HT.out, List.take_succ_eq_append_getElem hlt', lcs_snoc, ← HX.out]
          rfl)
        clear h1 h2 h3 hb2 HO HO1 HB HB1 HT
        go_wp2
        go_roundw
        case rel => exact ⟨k + 1, _, by omega, by go_num, HO2, HT2, HB2⟩
        case measure => simp [intOf]; omega
      · have hkn : k = n := by omega
        have HX := Lib.hid (show xs = lcs ls from by
          have hl := HO.out.1
          have ht := HT.out
          rw [List.take_of_length_le (by omega), List.take_of_length_le (by rw [HN.out]; omega)] at ht
          exact ht)
        clear hkn
        go_wp2
        go_ret
        refine ⟨_, rfl, ?_, HB.out⟩
        rw [HN.out, ← HX.out]
        exact HO.out

set_option maxHeartbeats 400000 in
theorem eqDiskLateS_same (va vb : Value) (ls : List LateM) (w : World) (ha : Sl w 3 va ls.length (lcs ls)) (hb : Sl w 3 vb ls.length (lcs ls)) (hva : ∀ b, va.ownBlock = some b → b < w.heap.size) (hvb : ∀ b, vb.ownBlock = some b → b < w.heap.size) (hs : ls.length ≤ 1048576) :
    Calls Tryz.prog 80 #[va, vb] w fun e w' => e = .returned (.bool true) ∧ Below w.heap.size w w' := by
  obtain ⟨n, HN⟩ : ∃ n, Hid (ls.length = n) := ⟨_, Lib.hid rfl⟩
  rw [HN.out] at ha hb hs
  have hnot : ∀ (x : Bool) (w : World), (Op.unary .not (.bool x)).run Tryz.prog w = .ok (.bool (!x)) w := fun _ _ => rfl
  by_cases hn : n = 0
  · subst hn
    obtain ⟨_, A, c, rfl, _, _, _⟩ := ha
    obtain ⟨_, A', c', rfl, _, _, _⟩ := hb
    clear hva hvb
    go_enter Tryz.func80, Tryz.ntmps80
    go_wp2
    go_loopw [5] (fun i wr => i = .int .i64 0 ∧ wr = w) (fun _ _ => 0)
    case atStart => exact ⟨rfl, rfl⟩
    case round =>
      obtain ⟨rfl, rfl⟩ := hrel
      go_wp2
      go_ret
      exact ⟨rfl, Below.refl _ _⟩
  · obtain ⟨b, off, c, rfl, hnc, hcm, hcell⟩ := ha.form (by omega)
    obtain ⟨b', off', c', rfl, hnc', hcm', hcell'⟩ := hb.form (by omega)
    have hbl : b < w.heap.size := hva b rfl
    have hbl' : b' < w.heap.size := hvb b' rfl
    have HC := Lib.hid hcell
    have HC' := Lib.hid hcell'
    unfold maxLen at hcm hcm'
    clear hcell hcell' ha hb hva hvb
    go_enter Tryz.func80, Tryz.ntmps80
    go_wp2
    go_loopw [5] (fun i wr => ∃ (k : Nat), k ≤ n ∧ i = .int .i64 k ∧ Hid (Below w.heap.size w wr)) (fun i _ => n - (intOf i).toNat)
    case atStart => exact ⟨0, Nat.zero_le _, rfl, Lib.hid (Below.refl _ _)⟩
    case round =>
      obtain ⟨k, hk, rfl, HB⟩ := hrel
      by_cases hlt : k < n
      · have hlt' : k < ls.length := by rw [HN.out]; exact hlt
        have hrd := late_read (fun j u hu => (HB.out.cell hbl).trans (HC.out j u hu)) k hlt'
        have hrd' := late_read (fun j u hu => (HB.out.cell hbl').trans (HC'.out j u hu)) k hlt'
        generalize ls[k] = x at hrd hrd'
        obtain ⟨h1, h2, h3⟩ := hrd
        obtain ⟨h1', h2', h3'⟩ := hrd'
        have hk1 : (k : Int) < (n : Int) := by omega
        go_wp2_with fail
        go_region_held3 (fun w' => w'.cell? ⟨b, off + k * 3, none⟩ = some (.int .i64 x.side) ∧ w'.cell? ⟨b, off + k * 3 + 1, none⟩ = some (.int .i64 x.at_) ∧ w'.cell? ⟨b, off + k * 3 + 2, none⟩ = some (.string x.text) ∧ w'.cell? ⟨b', off' + k * 3, none⟩ = some (.int .i64 x.side) ∧ w'.cell? ⟨b', off' + k * 3 + 1, none⟩ = some (.int .i64 x.at_) ∧ w'.cell? ⟨b', off' + k * 3 + 2, none⟩ = some (.string x.text))
          (first
            | go_keep
            | (go_split_ands
               refine ⟨?_, ?_, ?_, ?_, ?_, ?_⟩
               all_goals (rw [hb2.cell (by have := HB.out.size; simp <;> omega)]; assumption)))
          ((go_at_call 154; ((with_reducible refine (eqDiskLate_same x.side x.at_ x.text _).mono ?_); rintro e w2 ⟨rfl, hb2⟩)))
        all_goals
          have HB2 := Lib.hid (HB.out.drew.trans (hb2.mono (by have := HB.out.size; simp; omega)))
          clear HB hb2 h1 h2 h3 h1' h2' h3'
          go_wp2
          go_roundw
          case rel => exact ⟨k + 1, by omega, by go_num, HB2⟩
          case measure => simp [intOf]; omega
      · go_wp2
        go_ret
        exact ⟨rfl, HB.out⟩
end Go.Proofs.YtgjlhokakcdpbaaGreatDoor

/-
  Lists of late writes marked, and asked for the marks.
-/
set_option maxRecDepth 100000
namespace Go.Proofs.YtgjlhokakcdpbaaGreatDoor
open Go.ChangeShapes Go.WideShapes Go.ChangeAt Go.RowKit Go.Proofs.Palim

/-- The marks of late writes from k on. -/
def lmarks (k n : Nat) : List LateM := (List.range n).map fun i => ⟨((k + 3 * i : Nat) : Int), ((k + 3 * i + 1 : Nat) : Int), mkText (k + 3 * i + 2)⟩
theorem lmarks_length (k n : Nat) : (lmarks k n).length = n := by simp [lmarks]
theorem lmarks_succ (k n : Nat) : lmarks k (n + 1) = lmarks k n ++ [⟨((k + 3 * n : Nat) : Int), ((k + 3 * n + 1 : Nat) : Int), mkText (k + 3 * n + 2)⟩] := by simp [lmarks, List.range_succ]
theorem lmarks_at (k n i : Nat) (h' : i < (lmarks k n).length) : (lmarks k n)[i] = ⟨((k + 3 * i : Nat) : Int), ((k + 3 * i + 1 : Nat) : Int), mkText (k + 3 * i + 2)⟩ := by simp [lmarks]

def MarkedL (k : Nat) (v : Value) (base n : Nat) (w : World) (e : Ending) (w' : World) : Prop :=
  e = .returned (.int .i64 ((k + 3 * n : Nat) : Int)) ∧ w'.ownsRow base 103 3 v n (lcs (lmarks k n)) ∧ Turned (fun b => v.ownBlock = some b) w w'

set_option maxHeartbeats 1000000 in
theorem markDiskLateS_any (v : Value) (n k base : Nat) (xs0 : List Value) (w : World) (h : w.ownsRow base 103 3 v n xs0) (hs : n ≤ 1048576) (hk0 : 1 ≤ k) (hk1 : k ≤ 100000000) :
    Calls Tryz.prog 86 #[v, .int .i64 (k : Int)] w (MarkedL k v base n w) := by
  by_cases hn : n = 0
  · subst hn
    obtain ⟨_, A, c, rfl, _, _, _⟩ := sl_of_own h
    have HO := Lib.hid h
    clear h
    go_enter Tryz.func86, Tryz.ntmps86
    go_wp2
    go_loopw [1, 5] (fun l i wr => l = .int .i64 (k : Int) ∧ i = .int .i64 0 ∧ wr = w) (fun _ _ _ => 0)
    case atStart => exact ⟨rfl, rfl, rfl⟩
    case round =>
      obtain ⟨rfl, rfl, rfl⟩ := hrel
      go_wp2
      go_ret
      refine ⟨rfl, ?_, Turned.refl _ _⟩
      have h0 := HO.out
      rw [List.length_eq_zero_iff.1 (h0.1.trans (Nat.zero_mul _))] at h0
      exact h0
  · obtain ⟨g, cap, rfl, hbg, hgl⟩ := h.form (by omega)
    have hcp : cap ≤ maxLen ∧ n ≤ cap := by
      rcases h.2 with ⟨hv, _⟩ | ⟨g', cap', cur, hv, _, _, h1, h2, _⟩
      · cases hv
      · injection hv with e1 e2 e3
        subst e3
        exact ⟨h2, h1⟩
    obtain ⟨hcp1, hcp2⟩ := hcp
    unfold maxLen at hcp1
    have HO0 := Lib.hid h
    clear h
    go_enter Tryz.func86, Tryz.ntmps86
    go_wp2
    go_loopw [1, 5] (fun l i wr => ∃ (j kk : Nat) (xs : List Value), j ≤ n ∧ kk = k + 3 * j ∧ l = .int .i64 (kk : Int) ∧ i = .int .i64 (j : Int) ∧ Hid (wr.ownsRow base 103 3 (.slice (some ⟨g, 0, none⟩) n cap) n xs) ∧ Hid (xs.take (j * 3) = lcs (lmarks k j)) ∧ Hid (Turned (fun b => b = g) w wr)) (fun _ i _ => n - (intOf i).toNat)
    case atStart => exact ⟨0, k, _, Nat.zero_le _, rfl, rfl, rfl, HO0, Lib.hid rfl, Lib.hid (Turned.refl _ _)⟩
    case round =>
      obtain ⟨j, kk, xs, hj, hkk, rfl, rfl, HO, HT, HW⟩ := hrel
      have HK := Lib.hid hkk
      have hkb : kk ≤ 103145728 := by omega
      have hkb1 : 1 ≤ kk := by omega
      clear hkk
      by_cases hlt : j < n
      · obtain ⟨⟨u0, _, hc0⟩, hf0, _, _⟩ := own_at HO.out (j * 3) (by omega)
        obtain ⟨⟨u1, _, hc1⟩, hf1, _, _⟩ := own_at HO.out (j * 3 + 1) (by omega)
        have HO1 := Lib.hid (own_setN (own_setN HO.out (j * 3) (.int .i64 (kk : Int))) (j * 3 + 1) (.int .i64 ((kk : Int) + 1)))
        have HW1 := Lib.hid (turned_setCell (turned_setCell HW.out (p := ⟨g, j * 3, none⟩) rfl (.int .i64 (kk : Int))) (p := ⟨g, j * 3 + 1, none⟩) rfl (.int .i64 ((kk : Int) + 1)))
        go_wp2_with fail
        refine (markText_any (kk + 2) _ (by omega) (by omega)).mono ?_
        rintro e w2 ⟨rfl, hb2⟩
        have HO2 := Lib.hid (own_kept HO1.out (w' := w2) (fun b e => hb2.block b (HO1.out.lt b e).2))
        obtain ⟨⟨u2, _, hc2⟩, hf2, _, _⟩ := own_at HO2.out (j * 3 + 2) (by omega)
        have HO3 := Lib.hid (own_setN HO2.out (j * 3 + 2) (.string (mkText (kk + 2))))
        have HW2 := Lib.hid (turned_setCell (HW1.out.trans (turned_of_below hb2)) (p := ⟨g, j * 3 + 2, none⟩) rfl (.string (mkText (kk + 2))))
        have HT2 := Lib.hid (show (((xs.set (j * 3) (.int .i64 (kk : Int))).set (j * 3 + 1) (.int .i64 ((kk : Int) + 1))).set (j * 3 + 2) (.string (mkText (kk + 2)))).take ((j + 1) * 3) = lcs (lmarks k (j + 1)) from by
          have hl : j * 3 + 2 < xs.length := by have := HO.out.1; omega
          rw [take_set3 xs j _ _ _ hl, HT.out, lmarks_succ, lcs_snoc, ← HK.out]
          rfl)
        clear HO HT HW HO1 HO2 HW1 hb2 hc0 hc1 hf0 hf1
        go_wp2
        go_roundw
        case rel => exact ⟨j + 1, kk + 3, _, by omega, by have := HK.out; omega, by go_num, by go_num, HO3, HT2, HW2⟩
        case measure => simp [intOf]; omega
      · have hjn : j = n := by omega
        have HX := Lib.hid (show xs = lcs (lmarks k n) from by
          have hl := HO.out.1
          have ht := HT.out
          rw [List.take_of_length_le (by omega), hjn] at ht
          exact ht)
        have HKN := Lib.hid (show kk = k + 3 * n from by rw [HK.out, hjn])
        clear hjn
        go_wp2
        go_ret
        refine ⟨?_, ?_, HW.out.mono ?_⟩
        · exact ret_int (by rw [HKN.out])
        · rw [← HX.out]; exact HO.out
        · rintro b _ rfl; rfl

set_option maxHeartbeats 1000000 in
theorem heldDiskLateS_any (v : Value) (n k : Nat) (w : World) (h : Sl w 3 v n (lcs (lmarks k n))) (hv : ∀ b, v.ownBlock = some b → b < w.heap.size) (hs : n ≤ 1048576) (hk0 : 1 ≤ k) (hk1 : k ≤ 100000000) :
    Calls Tryz.prog 92 #[v, .int .i64 (k : Int)] w (HeldPost ((k + 3 * n : Nat) : Int) w) := by
  by_cases hn : n = 0
  · subst hn
    obtain ⟨_, A, c, rfl, _, _, _⟩ := h
    clear hv
    go_enter Tryz.func92, Tryz.ntmps92
    go_wp2
    go_loopw [1, 5] (fun l i wr => l = .int .i64 (k : Int) ∧ i = .int .i64 0 ∧ wr = w) (fun _ _ _ => 0)
    case atStart => exact ⟨rfl, rfl, rfl⟩
    case round =>
      obtain ⟨rfl, rfl, rfl⟩ := hrel
      go_wp2
      go_ret
      exact ⟨rfl, Below.refl _ _⟩
  · obtain ⟨b, off, c, rfl, hnc, hcm, hcell⟩ := h.form (by omega)
    have hbl : b < w.heap.size := hv b rfl
    have HC := Lib.hid hcell
    unfold maxLen at hcm
    clear hcell h hv
    go_enter Tryz.func92, Tryz.ntmps92
    go_wp2
    go_loopw [1, 5] (fun l i wr => ∃ (j kk : Nat), j ≤ n ∧ Hid (kk = k + 3 * j) ∧ l = .int .i64 (kk : Int) ∧ i = .int .i64 (j : Int) ∧ Hid (Below w.heap.size w wr)) (fun _ i _ => n - (intOf i).toNat)
    case atStart => exact ⟨0, k, Nat.zero_le _, Lib.hid rfl, rfl, rfl, Lib.hid (Below.refl _ _)⟩
    case round =>
      obtain ⟨j, kk, hj, HK, rfl, rfl, HB⟩ := hrel
      have hkb : kk ≤ 103145728 := by have := HK.out; omega
      have hkb1 : 1 ≤ kk := by have := HK.out; omega
      by_cases hlt : j < n
      · have hlt' : j < (lmarks k n).length := by rw [lmarks_length]; exact hlt
        have hrd := late_read (fun j u hu => (HB.out.cell hbl).trans (HC.out j u hu)) j hlt'
        rw [lmarks_at, ← HK.out] at hrd
        obtain ⟨h1, h2, h3⟩ := hrd
        have h2' : wr.cell? ⟨b, off + j * 3 + 1, none⟩ = some (.int .i64 ((kk : Int) + 1)) := h2
        clear h2
        have hj1 : (j : Int) < (n : Int) := by omega
        have hbr : b < wr.heap.size := Nat.lt_of_lt_of_le hbl HB.out.size
        go_wp2_with fail
        go_region_held3 (fun w' => w'.cell? ⟨b, off + j * 3 + 2, none⟩ = some (.string (mkText (kk + 2))))
          (first
            | go_keep
            | (rw [hb2.cell (by simp <;> omega)]; assumption))
          ((go_at_call 100; ((refine (markText_any (kk + 2) _ (by omega) (by omega)).mono ?_); rintro e w2 ⟨rfl, hb2⟩)))
        all_goals
          have HB2 := Lib.hid (HB.out.drew.trans (hb2.mono (by have := HB.out.size; simp; omega)))
          clear HB hb2 h1 h2' h3
          go_wp2
          go_roundw
          case rel => exact ⟨j + 1, kk + 3, by omega, Lib.hid (by have := HK.out; omega), by go_num, by go_num, HB2⟩
          case measure => simp [intOf]; omega
      · have HKN := Lib.hid (show kk = k + 3 * n from by have := HK.out; omega)
        go_wp2
        go_ret
        exact ⟨ret_int (by rw [HKN.out]), HB.out⟩
end Go.Proofs.YtgjlhokakcdpbaaGreatDoor

/-
  Pairs of lists of strings: the laws' helpers.
-/
set_option maxRecDepth 100000
namespace Go.Proofs.YtgjlhokakcdpbaaGreatDoor
open Go.ChangeShapes Go.WideShapes Go.ChangeAt Go.RowKit Go.Proofs.Palim

def NewPair (w : World) (s0 s1 : List ByteArray) (e : Ending) (w' : World) : Prop :=
  ∃ u0 u1, e = .returned (.agg #[u0, u1]) ∧ w'.ownsRow w.heap.size 9 1 u0 s0.length (scs s0) ∧ w'.ownsRow w.heap.size 9 1 u1 s1.length (scs s1) ∧ Apart u0 u1 ∧ Below w.heap.size w w'

set_option maxHeartbeats 400000 in
theorem toStringSA2_any (v0 v1 : Value) (s0 s1 : List ByteArray) (w : World) (h0 : Sl w 1 v0 s0.length (scs s0)) (h1 : Sl w 1 v1 s1.length (scs s1)) (hv0 : ∀ b, v0.ownBlock = some b → b < w.heap.size) (hv1 : ∀ b, v1.ownBlock = some b → b < w.heap.size) (hs0 : s0.length ≤ 1048576) (hs1 : s1.length ≤ 1048576) :
    Calls Tryz.prog 70 #[.agg #[v0, v1]] w (NewPair w s0 s1) := by
  have H0 := Lib.hid h0
  have H1 := Lib.hid h1
  clear h0 h1
  have HV0 := Lib.hid hv0
  have HV1 := Lib.hid hv1
  clear hv0 hv1
  go_enter Tryz.func70, Tryz.ntmps70
  go_wp2
  go_loopw [4] (fun i wr => ∃ (j : Nat) (u0 u1 : Value), i = .int .i64 (j : Int) ∧
      Hid (Box wr w.heap.size [v0, v1]) ∧ Hid (Box wr (w.heap.size + 1) [.slice none 0 0, .slice none 0 0]) ∧ Hid (Box wr (w.heap.size + 1 + 1) [u0, u1]) ∧
      w.heap.size + 3 ≤ wr.heap.size ∧ Hid (Below w.heap.size w wr) ∧
      ((j = 0 ∧ u0 = .slice none 0 0 ∧ u1 = .slice none 0 0) ∨
       (j = 1 ∧ u1 = .slice none 0 0 ∧ Hid (wr.ownsRow (w.heap.size + 3) 9 1 u0 s0.length (scs s0))) ∨
       (j = 2 ∧ Hid (wr.ownsRow (w.heap.size + 3) 9 1 u0 s0.length (scs s0)) ∧ Hid (wr.ownsRow (w.heap.size + 3) 9 1 u1 s1.length (scs s1)) ∧ Hid (Apart u0 u1))))
      (fun i _ => 2 - (intOf i).toNat)
  case atStart =>
    exact ⟨0, _, _, rfl, Lib.hid (((box_new _ _ _).alloc _).alloc _), Lib.hid (Box.alloc (by simpa using box_new (w.alloc _) _ _) _), Lib.hid (by simpa using box_new ((w.alloc _).alloc _) _ _), by simp, Lib.hid (((((Below.refl _ _).alloc (Nat.le_refl _) _).alloc (by simp) _)).alloc (by simp <;> omega) _), Or.inl ⟨rfl, rfl, rfl⟩⟩
  case round =>
    obtain ⟨j, u0, u1, rfl, HA, HR, HU, hsz, HB, hcase⟩ := hrel
    obtain ⟨ha0, ha1⟩ := HA.out.two
    rcases hcase with ⟨rfl, rfl, rfl⟩ | ⟨rfl, rfl, HO0⟩ | ⟨rfl, HO0, HO1, HP⟩
    · go_wp2_with fail
      refine (toStringS_any v0 s0 _ (H0.out.below HB.out HV0.out) hs0).mono ?_
      rintro e w2 ⟨u, rfl, ho, hb⟩
      obtain ⟨_, A, c, rfl, _⟩ := sl_of_own ho
      have HA2 := Lib.hid (HA.out.below hb (by omega))
      have HR2 := Lib.hid (HR.out.below hb (by omega))
      have HU2 := Lib.hid (HU.out.below hb (by omega))
      have HO2 := Lib.hid (own_base ho hsz)
      have HB2 := Lib.hid (HB.out.trans (hb.mono (by omega)))
      have hsz2 : w.heap.size + 3 ≤ w2.heap.size := Nat.le_trans hsz hb.size
      clear ho hb HA HR HU HB hsz
      obtain ⟨hu0, hu1⟩ := HU2.out.two
      have hf := HU2.out.open_ 0
      go_wp2
      go_roundw
      case rel => exact ⟨1, _, _, by go_num, Lib.hid (HA2.out.other (by simp; omega) _), Lib.hid (HR2.out.other (by simp) _), Lib.hid (HU2.out.set 0 _), by simpa using hsz2, Lib.hid (HB2.out.setCell (by simp; omega) _), Or.inr (Or.inl ⟨rfl, rfl, Lib.hid (ownsRow_setCell_below HO2.out (by simp) _)⟩)⟩
      case measure => simp [intOf]
    · go_wp2_with fail
      refine (toStringS_any v1 s1 _ (H1.out.below HB.out HV1.out) hs1).mono ?_
      rintro e w2 ⟨u, rfl, ho, hb⟩
      obtain ⟨_, A, c, rfl, _⟩ := sl_of_own ho
      have HA2 := Lib.hid (HA.out.below hb (by omega))
      have HR2 := Lib.hid (HR.out.below hb (by omega))
      have HU2 := Lib.hid (HU.out.below hb (by omega))
      have HP2 := Lib.hid (show Apart u0 _ from fun g e e' => by have := (HO0.out.lt g e).2; have := (ho.lt g e').1; omega)
      have HO0' := Lib.hid (own_kept HO0.out (w' := w2) (fun b e => hb.block b (HO0.out.lt b e).2))
      have HO2 := Lib.hid (own_base ho hsz)
      have HB2 := Lib.hid (HB.out.trans (hb.mono (by omega)))
      have hsz2 : w.heap.size + 3 ≤ w2.heap.size := Nat.le_trans hsz hb.size
      clear ho hb HA HR HU HB hsz HO0
      obtain ⟨hu0, hu1⟩ := HU2.out.two
      have hf := HU2.out.open_ 1
      go_wp2
      go_roundw
      case rel => exact ⟨2, u0, _, by go_num, Lib.hid (HA2.out.other (by simp; omega) _), Lib.hid (HR2.out.other (by simp) _), Lib.hid (HU2.out.set 1 _), by simpa using hsz2, Lib.hid (HB2.out.setCell (by simp; omega) _), Or.inr (Or.inr ⟨rfl, Lib.hid (ownsRow_setCell_below HO0'.out (by simp) _), Lib.hid (ownsRow_setCell_below HO2.out (by simp) _), HP2⟩)⟩
      case measure => simp [intOf]
    · obtain ⟨_, A0, c0, rfl, _⟩ := sl_of_own HO0.out
      obtain ⟨_, A1, c1, rfl, _⟩ := sl_of_own HO1.out
      obtain ⟨hu0, hu1⟩ := HU.out.two
      obtain ⟨hr0, hr1⟩ := HR.out.two
      have hf0 := HR.out.open_ 0
      have hf1 := HR.out.open_ 1
      go_wp2
      obtain ⟨p0, _⟩ := (HR.out.set 0 (.slice A0 s0.length c0)).two
      obtain ⟨_, q1⟩ := ((HR.out.set 0 (.slice A0 s0.length c0)).set 1 (.slice A1 s1.length c1)).two
      refine bodyPost_ret (v := .agg #[.slice A0 s0.length c0, .slice A1 s1.length c1]) (by simp [results, Tryz.results70, go_sem, p0, q1]) rfl ⟨_, _, rfl, ?_, ?_, HP.out, ?_⟩
      · exact own_base (ownsRow_setCell_below (ownsRow_setCell_below HO0.out (by simp) _) (by simp) _) (by omega)
      · exact own_base (ownsRow_setCell_below (ownsRow_setCell_below HO1.out (by simp) _) (by simp) _) (by omega)
      · exact (HB.out.setCell (by simp) _).setCell (by simp) _
end Go.Proofs.YtgjlhokakcdpbaaGreatDoor

/-
  Pairs of lists of strings: compared, sized, marked, asked for marks.
-/
set_option maxRecDepth 100000
namespace Go.Proofs.YtgjlhokakcdpbaaGreatDoor
open Go.ChangeShapes Go.WideShapes Go.ChangeAt Go.RowKit Go.Proofs.Palim

set_option maxHeartbeats 400000 in
theorem eqStringSA2_same (a0 a1 b0 b1 : Value) (s0 s1 : List ByteArray) (w : World) (h0 : Sl w 1 a0 s0.length (scs s0)) (h1 : Sl w 1 a1 s1.length (scs s1)) (k0 : Sl w 1 b0 s0.length (scs s0)) (k1 : Sl w 1 b1 s1.length (scs s1))
    (ha0 : ∀ b, a0.ownBlock = some b → b < w.heap.size) (ha1 : ∀ b, a1.ownBlock = some b → b < w.heap.size) (hb0 : ∀ b, b0.ownBlock = some b → b < w.heap.size) (hb1 : ∀ b, b1.ownBlock = some b → b < w.heap.size) (hs0 : s0.length ≤ 1048576) (hs1 : s1.length ≤ 1048576) :
    Calls Tryz.prog 79 #[.agg #[a0, a1], .agg #[b0, b1]] w fun e w' => e = .returned (.bool true) ∧ Below w.heap.size w w' := by
  have hnot : ∀ (x : Bool) (w : World), (Op.unary .not (.bool x)).run Tryz.prog w = .ok (.bool (!x)) w := fun _ _ => rfl
  have H0 := Lib.hid h0
  have H1 := Lib.hid h1
  have K0 := Lib.hid k0
  have K1 := Lib.hid k1
  have HA0 := Lib.hid ha0
  have HA1 := Lib.hid ha1
  have HB0 := Lib.hid hb0
  have HB1 := Lib.hid hb1
  clear h0 h1 k0 k1 ha0 ha1 hb0 hb1
  go_enter Tryz.func79, Tryz.ntmps79
  go_wp2
  go_loopw [5] (fun i wr => ∃ (j : Nat), i = .int .i64 (j : Int) ∧ Hid (Box wr w.heap.size [a0, a1]) ∧ Hid (Box wr (w.heap.size + 1) [b0, b1]) ∧ Hid (Below w.heap.size w wr) ∧ (j = 0 ∨ j = 1 ∨ j = 2)) (fun i _ => 2 - (intOf i).toNat)
  case atStart => exact ⟨0, rfl, Lib.hid ((box_new _ _ _).alloc _), Lib.hid (by simpa using box_new (w.alloc _) _ _), Lib.hid (((Below.refl _ _).alloc (Nat.le_refl _) _).alloc (by simp) _), Or.inl rfl⟩
  case round =>
    obtain ⟨j, rfl, HA, HC, HB, hcase⟩ := hrel
    obtain ⟨x0, x1⟩ := HA.out.two
    obtain ⟨y0, y1⟩ := HC.out.two
    rcases hcase with rfl | rfl | rfl
    · have HS := Lib.hid (show Sl wr.drew 1 a0 s0.length (scs s0) from H0.out.below HB.out.drew HA0.out)
      have HT := Lib.hid (show Sl wr.drew 1 b0 s0.length (scs s0) from K0.out.below HB.out.drew HB0.out)
      go_wp2_with fail
      go_region_held3 (fun w' => w'.cell? ⟨w.heap.size, 0, none⟩ = some a0 ∧ w'.cell? ⟨w.heap.size + 1, 0, none⟩ = some b0)
        (first
          | go_keep
          | (go_split_ands; exact ⟨by assumption, by assumption⟩))
        ((go_at_call 153; ((refine (eqStringS_same a0 b0 s0 _ HS.out HT.out hs0).mono ?_); rintro e w2 ⟨rfl, q, rfl⟩)))
      all_goals
        go_wp2
        go_roundw
        case rel => exact ⟨1, by go_num, HA, HC, Lib.hid ⟨HB.out.os, HB.out.tape, HB.out.output, HB.out.size, HB.out.block⟩, by simp⟩
        case measure => simp [intOf]
    · have HS := Lib.hid (show Sl wr.drew 1 a1 s1.length (scs s1) from H1.out.below HB.out.drew HA1.out)
      have HT := Lib.hid (show Sl wr.drew 1 b1 s1.length (scs s1) from K1.out.below HB.out.drew HB1.out)
      go_wp2_with fail
      go_region_held3 (fun w' => w'.cell? ⟨w.heap.size, 1, none⟩ = some a1 ∧ w'.cell? ⟨w.heap.size + 1, 1, none⟩ = some b1)
        (first
          | go_keep
          | (go_split_ands; exact ⟨by assumption, by assumption⟩))
        ((go_at_call 153; ((refine (eqStringS_same a1 b1 s1 _ HS.out HT.out hs1).mono ?_); rintro e w2 ⟨rfl, q, rfl⟩)))
      all_goals
        go_wp2
        go_roundw
        case rel => exact ⟨2, by go_num, HA, HC, Lib.hid ⟨HB.out.os, HB.out.tape, HB.out.output, HB.out.size, HB.out.block⟩, by simp⟩
        case measure => simp [intOf]
    · go_wp2
      go_ret
      exact ⟨rfl, HB.out⟩

set_option maxHeartbeats 400000 in
theorem szStringSA2_any (a0 a1 : Value) (s0 s1 : List ByteArray) (left : Int) (w : World) (h0 : Sl w 1 a0 s0.length (scs s0)) (h1 : Sl w 1 a1 s1.length (scs s1)) (ha0 : ∀ b, a0.ownBlock = some b → b < w.heap.size) (ha1 : ∀ b, a1.ownBlock = some b → b < w.heap.size)
    (hz0 : ∀ s ∈ s0, s.size ≤ maxLen) (hz1 : ∀ s ∈ s1, s.size ≤ maxLen) (hl0 : 0 ≤ left) (hl1 : left ≤ 1048576) :
    Calls Tryz.prog 59 #[.agg #[a0, a1], .int .i64 left] w fun e w' => (∃ r : Int, e = .returned (.int .i64 r) ∧ (r = -1 ∨ 0 ≤ r ∧ r + (s0.length + tot s0 + (s1.length + tot s1) : Nat) = left)) ∧ Below w.heap.size w w' := by
  have H0 := Lib.hid h0
  have H1 := Lib.hid h1
  have HA0 := Lib.hid ha0
  have HA1 := Lib.hid ha1
  have HZ0 := Lib.hid hz0
  have HZ1 := Lib.hid hz1
  obtain ⟨m0, HM0⟩ : ∃ m, Hid (s0.length + tot s0 = m) := ⟨_, Lib.hid rfl⟩
  obtain ⟨m1, HM1⟩ : ∃ m, Hid (s1.length + tot s1 = m) := ⟨_, Lib.hid rfl⟩
  rw [HM0.out, HM1.out]
  clear h0 h1 ha0 ha1 hz0 hz1
  go_enter Tryz.func59, Tryz.ntmps59
  go_wp2
  go_loopw [1, 5] (fun x i wr => ∃ (j : Nat) (l : Int), x = .int .i64 l ∧ i = .int .i64 (j : Int) ∧ Hid (Box wr w.heap.size [a0, a1]) ∧ Hid (Below w.heap.size w wr) ∧ ((j = 0 ∧ l = left) ∨ (j = 1 ∧ 0 ≤ l ∧ l + m0 = left) ∨ (j = 2 ∧ 0 ≤ l ∧ l + (m0 + m1) = left))) (fun _ i _ => 2 - (intOf i).toNat)
  case atStart => exact ⟨0, left, rfl, rfl, Lib.hid (box_new _ _ _), Lib.hid ((Below.refl _ _).alloc (Nat.le_refl _) _), Or.inl ⟨rfl, rfl⟩⟩
  case round =>
    obtain ⟨j, l, rfl, rfl, HA, HB, hcase⟩ := hrel
    obtain ⟨x0, x1⟩ := HA.out.two
    have hlb : 0 ≤ l := by omega
    have hlc : l ≤ 1048576 := by omega
    rcases hcase with ⟨rfl, hl⟩ | ⟨rfl, _, hl⟩ | ⟨rfl, _, hl⟩
    · subst hl
      have hl := hl0
      have HS := Lib.hid (H0.out.below HB.out HA0.out)
      go_wp2_with fail
      refine (szStringS_any a0 s0 _ _ HS.out HZ0.out hlb hlc).mono ?_
      rintro e w2 ⟨r, rfl, rfl, hr⟩
      rw [HM0.out] at hr
      rcases hr with rfl | ⟨hr0, hr1⟩
      · clear HS HA hl
        go_wp2
        go_ret
        exact ⟨⟨-1, rfl, Or.inl rfl⟩, HB.out⟩
      · have hr2 : ¬ r < 0 := by omega
        go_wp2
        go_roundw
        case rel => exact ⟨1, r, rfl, by go_num, HA, HB, Or.inr (Or.inl ⟨rfl, by omega, by omega⟩)⟩
        case measure => simp [intOf]
    · 
      have HS := Lib.hid (H1.out.below HB.out HA1.out)
      go_wp2_with fail
      refine (szStringS_any a1 s1 l _ HS.out HZ1.out hlb hlc).mono ?_
      rintro e w2 ⟨r, rfl, rfl, hr⟩
      rw [HM1.out] at hr
      rcases hr with rfl | ⟨hr0, hr1⟩
      · clear HS HA hl
        go_wp2
        go_ret
        exact ⟨⟨-1, rfl, Or.inl rfl⟩, HB.out⟩
      · have hr2 : ¬ r < 0 := by omega
        go_wp2
        go_roundw
        case rel => exact ⟨2, r, rfl, by go_num, HA, HB, Or.inr (Or.inr ⟨rfl, by omega, by omega⟩)⟩
        case measure => simp [intOf]
    · go_wp2
      go_ret
      exact ⟨⟨l, rfl, Or.inr ⟨hlb, by omega⟩⟩, HB.out⟩
end Go.Proofs.YtgjlhokakcdpbaaGreatDoor

/-
  Pairs of lists of strings: marked, and asked for marks.
-/
set_option maxRecDepth 100000
namespace Go.Proofs.YtgjlhokakcdpbaaGreatDoor
open Go.ChangeShapes Go.WideShapes Go.ChangeAt Go.RowKit Go.Proofs.Palim

def MarkedPair (k : Nat) (v0 v1 : Value) (base n0 n1 : Nat) (w : World) (e : Ending) (w' : World) : Prop :=
  e = .returned (.int .i64 ((k + n0 + n1 : Nat) : Int)) ∧ w'.ownsRow base 9 1 v0 n0 (scs (marks k n0)) ∧ w'.ownsRow base 9 1 v1 n1 (scs (marks (k + n0) n1)) ∧ Turned (fun b => v0.ownBlock = some b ∨ v1.ownBlock = some b) w w'

set_option maxHeartbeats 400000 in
theorem markStringSA2_any (v0 v1 : Value) (n0 n1 k base : Nat) (xs0 xs1 : List Value) (w : World) (h0 : w.ownsRow base 9 1 v0 n0 xs0) (h1 : w.ownsRow base 9 1 v1 n1 xs1) (hap : Apart v0 v1) (hs0 : n0 ≤ 1048576) (hs1 : n1 ≤ 1048576) (hk0 : 1 ≤ k) (hk1 : k ≤ 90000000) :
    Calls Tryz.prog 85 #[.agg #[v0, v1], .int .i64 (k : Int)] w (MarkedPair k v0 v1 base n0 n1 w) := by
  have H0 := Lib.hid h0
  have H1 := Lib.hid h1
  have HP := Lib.hid hap
  clear h0 h1 hap
  go_enter Tryz.func85, Tryz.ntmps85
  go_wp2
  go_loopw [1, 5] (fun x i wr => ∃ (j kk : Nat), x = .int .i64 (kk : Int) ∧ i = .int .i64 (j : Int) ∧ Hid (Box wr w.heap.size [v0, v1]) ∧ Hid (Turned (fun b => v0.ownBlock = some b ∨ v1.ownBlock = some b) w wr) ∧
      ((j = 0 ∧ kk = k ∧ Hid (wr.ownsRow base 9 1 v0 n0 xs0) ∧ Hid (wr.ownsRow base 9 1 v1 n1 xs1)) ∨
       (j = 1 ∧ kk = k + n0 ∧ Hid (wr.ownsRow base 9 1 v0 n0 (scs (marks k n0))) ∧ Hid (wr.ownsRow base 9 1 v1 n1 xs1)) ∨
       (j = 2 ∧ kk = k + n0 + n1 ∧ Hid (wr.ownsRow base 9 1 v0 n0 (scs (marks k n0))) ∧ Hid (wr.ownsRow base 9 1 v1 n1 (scs (marks (k + n0) n1)))))) (fun _ i _ => 2 - (intOf i).toNat)
  case atStart => exact ⟨0, k, rfl, rfl, Lib.hid (box_new _ _ _), Lib.hid (turned_of_below ((Below.refl _ _).alloc (Nat.le_refl _) _)), Or.inl ⟨rfl, rfl, Lib.hid (own_kept H0.out fun b e => Below.heap_alloc _ _ _ (H0.out.lt b e).2), Lib.hid (own_kept H1.out fun b e => Below.heap_alloc _ _ _ (H1.out.lt b e).2)⟩⟩
  case round =>
    obtain ⟨j, kk, rfl, rfl, HA, HT, hcase⟩ := hrel
    obtain ⟨x0, x1⟩ := HA.out.two
    rcases hcase with ⟨rfl, rfl, HO0, HO1⟩ | ⟨rfl, hkk, HO0, HO1⟩ | ⟨rfl, hkk, HO0, HO1⟩
    · go_wp2_with fail
      refine (markStringS_any v0 n0 kk base _ _ HO0.out hs0 hk0 (by omega)).mono ?_
      rintro e w2 ⟨rfl, ho, ht⟩
      have HA2 := Lib.hid (HA.out.turned ht (fun e => by have := (H0.out.lt _ e).2; omega))
      have HO1' := Lib.hid (own_kept HO1.out (w' := w2) (fun b e => ht.block b (HO1.out.lt b e).2 (fun e' => HP.out b e' e)))
      have HO0' := Lib.hid ho
      have HT' := Lib.hid (HT.out.trans (ht.mono (fun _ _ e => Or.inl e)))
      clear ho ht HO0 HO1 HA HT
      go_wp2
      go_roundw
      case rel => exact ⟨1, kk + n0, by go_num, by go_num, HA2, HT', Or.inr (Or.inl ⟨rfl, rfl, HO0', HO1'⟩)⟩
      case measure => simp [intOf]
    · have HK := Lib.hid hkk
      have hkk0 : 1 ≤ kk := by omega
      have hkk1 : kk ≤ 100000000 := by omega
      clear hkk
      go_wp2_with fail
      refine (markStringS_any v1 n1 kk base _ _ HO1.out hs1 hkk0 hkk1).mono ?_
      rintro e w2 ⟨rfl, ho, ht⟩
      have HA2 := Lib.hid (HA.out.turned ht (fun e => by have := (H1.out.lt _ e).2; omega))
      have HO0' := Lib.hid (own_kept HO0.out (w' := w2) (fun b e => ht.block b (HO0.out.lt b e).2 (fun e' => HP.out b e e')))
      have HO1' := Lib.hid ho
      have HT' := Lib.hid (HT.out.trans (ht.mono (fun _ _ e => Or.inr e)))
      clear ho ht HO0 HO1 HA HT
      go_wp2
      go_roundw
      case rel => exact ⟨2, kk + n1, by go_num, by go_num, HA2, HT', Or.inr (Or.inr ⟨rfl, by have := HK.out; omega, HO0', Lib.hid (HK.out ▸ HO1'.out)⟩)⟩
      case measure => simp [intOf]
    · have HK := Lib.hid hkk
      clear hkk
      go_wp2
      go_ret
      exact ⟨ret_int (by rw [HK.out]), HO0.out, HO1.out, HT.out⟩

set_option maxHeartbeats 400000 in
theorem heldStringSA2_any (v0 v1 : Value) (n0 n1 k : Nat) (w : World) (h0 : Sl w 1 v0 n0 (scs (marks k n0))) (h1 : Sl w 1 v1 n1 (scs (marks (k + n0) n1))) (ha0 : ∀ b, v0.ownBlock = some b → b < w.heap.size) (ha1 : ∀ b, v1.ownBlock = some b → b < w.heap.size) (hs0 : n0 ≤ 1048576) (hs1 : n1 ≤ 1048576) (hk0 : 1 ≤ k) (hk1 : k ≤ 90000000) :
    Calls Tryz.prog 91 #[.agg #[v0, v1], .int .i64 (k : Int)] w (HeldPost ((k + n0 + n1 : Nat) : Int) w) := by
  have H0 := Lib.hid h0
  have H1 := Lib.hid h1
  have HA0 := Lib.hid ha0
  have HA1 := Lib.hid ha1
  clear h0 h1 ha0 ha1
  go_enter Tryz.func91, Tryz.ntmps91
  go_wp2
  go_loopw [1, 5] (fun x i wr => ∃ (j kk : Nat), x = .int .i64 (kk : Int) ∧ i = .int .i64 (j : Int) ∧ Hid (Box wr w.heap.size [v0, v1]) ∧ w.heap.size + 1 ≤ wr.heap.size ∧ Hid (Below w.heap.size w wr) ∧ ((j = 0 ∧ kk = k) ∨ (j = 1 ∧ kk = k + n0) ∨ (j = 2 ∧ kk = k + n0 + n1))) (fun _ i _ => 2 - (intOf i).toNat)
  case atStart => exact ⟨0, k, rfl, rfl, Lib.hid (box_new _ _ _), by simp, Lib.hid ((Below.refl _ _).alloc (Nat.le_refl _) _), Or.inl ⟨rfl, rfl⟩⟩
  case round =>
    obtain ⟨j, kk, rfl, rfl, HA, hsz, HB, hcase⟩ := hrel
    obtain ⟨x0, x1⟩ := HA.out.two
    rcases hcase with ⟨rfl, rfl⟩ | ⟨rfl, hkk⟩ | ⟨rfl, hkk⟩
    · go_wp2_with fail
      refine (heldStringS_any v0 n0 kk _ (H0.out.below HB.out HA0.out) (fun b e => by have := HA0.out b e; omega) hs0 hk0 (by omega)).mono ?_
      rintro e w2 ⟨rfl, hb⟩
      have HA2 := Lib.hid (HA.out.below hb (by omega))
      have HB2 := Lib.hid (HB.out.trans (hb.mono (by omega)))
      have hsz2 : w.heap.size + 1 ≤ w2.heap.size := Nat.le_trans hsz hb.size
      clear hb HA HB hsz x0 x1
      have hnn : ¬ ((kk + n0 : Nat) : Int) < 0 := by omega
      go_wp2
      go_roundw
      case rel => exact ⟨1, kk + n0, by go_num, by go_num, HA2, hsz2, HB2, Or.inr (Or.inl ⟨rfl, rfl⟩)⟩
      case measure => simp [intOf]
    · have HK := Lib.hid hkk
      have hkk0 : 1 ≤ kk := by omega
      have hkk1 : kk ≤ 100000000 := by omega
      have HS1 := Lib.hid (show Sl wr 1 v1 n1 (scs (marks kk n1)) from by rw [HK.out]; exact H1.out.below HB.out HA1.out)
      clear hkk
      go_wp2_with fail
      refine (heldStringS_any v1 n1 kk _ HS1.out (fun b e => by have := HA1.out b e; omega) hs1 hkk0 hkk1).mono ?_
      rintro e w2 ⟨rfl, hb⟩
      have HA2 := Lib.hid (HA.out.below hb (by omega))
      have HB2 := Lib.hid (HB.out.trans (hb.mono (by omega)))
      have hsz2 : w.heap.size + 1 ≤ w2.heap.size := Nat.le_trans hsz hb.size
      clear hb HA HB hsz x0 x1 HS1
      have hnn : ¬ ((kk + n1 : Nat) : Int) < 0 := by omega
      go_wp2
      go_roundw
      case rel => exact ⟨2, kk + n1, by go_num, by go_num, HA2, hsz2, HB2, Or.inr (Or.inr ⟨rfl, by have := HK.out; omega⟩)⟩
      case measure => simp [intOf]
    · have HK := Lib.hid hkk
      clear hkk
      go_wp2
      go_ret
      exact ⟨ret_int (by rw [HK.out]), HB.out⟩
end Go.Proofs.YtgjlhokakcdpbaaGreatDoor

/-
  Disks as values: what they read as, which of them a call owns, and the laws' helpers on them.
-/
set_option maxRecDepth 100000
namespace Go.Proofs.YtgjlhokakcdpbaaGreatDoor
open Go.ChangeShapes Go.WideShapes Go.ChangeAt Go.RowKit Go.Proofs.Palim

structure DiskM where
  s0 : List ByteArray
  s1 : List ByteArray
  late : List LateM

/-- The block of a value lies below B. -/
def Low (B : Nat) (v : Value) : Prop := ∀ b, v.ownBlock = some b → b < B
theorem Low.mono {B B' : Nat} {v : Value} (h : Low B v) (hB : B ≤ B') : Low B' v := fun b e => Nat.lt_of_lt_of_le (h b e) hB
theorem low_of_own {w : World} {base e sz n : Nat} {v : Value} {xs : List Value} (h : w.ownsRow base e sz v n xs) : Low w.heap.size v := fun b e => (h.lt b e).2

/-- Three slices that read as a disk. -/
structure DiskR (w : World) (v0 v1 vl : Value) (d : DiskM) : Prop where
  r0 : Sl w 1 v0 d.s0.length (scs d.s0)
  r1 : Sl w 1 v1 d.s1.length (scs d.s1)
  rl : Sl w 3 vl d.late.length (lcs d.late)
  l0 : Low w.heap.size v0
  l1 : Low w.heap.size v1
  ll : Low w.heap.size vl
theorem DiskR.below {w w' : World} {v0 v1 vl : Value} {d : DiskM} (h : DiskR w v0 v1 vl d) (hb : Below w.heap.size w w') : DiskR w' v0 v1 vl d :=
  ⟨h.r0.below hb h.l0, h.r1.below hb h.l1, h.rl.below hb h.ll, h.l0.mono hb.size, h.l1.mono hb.size, h.ll.mono hb.size⟩
/-- Three slices of the call's own, apart from one another, that read as a disk. -/
structure DiskOwn (w : World) (base : Nat) (v0 v1 vl : Value) (d : DiskM) : Prop where
  o0 : w.ownsRow base 9 1 v0 d.s0.length (scs d.s0)
  o1 : w.ownsRow base 9 1 v1 d.s1.length (scs d.s1)
  ol : w.ownsRow base 103 3 vl d.late.length (lcs d.late)
  p01 : Apart v0 v1
  p0l : Apart v0 vl
  p1l : Apart v1 vl
theorem DiskOwn.reads {w : World} {base : Nat} {v0 v1 vl : Value} {d : DiskM} (h : DiskOwn w base v0 v1 vl d) : DiskR w v0 v1 vl d :=
  ⟨sl_of_own h.o0, sl_of_own h.o1, sl_of_own h.ol, low_of_own h.o0, low_of_own h.o1, low_of_own h.ol⟩
theorem DiskOwn.kept {w w' : World} {base : Nat} {v0 v1 vl : Value} {d : DiskM} (h : DiskOwn w base v0 v1 vl d) (hb : ∀ b, b < w.heap.size → base ≤ b → w'.heap[b]? = w.heap[b]?) : DiskOwn w' base v0 v1 vl d :=
  ⟨own_kept h.o0 fun b e => hb b (h.o0.lt b e).2 (h.o0.lt b e).1, own_kept h.o1 fun b e => hb b (h.o1.lt b e).2 (h.o1.lt b e).1, own_kept h.ol fun b e => hb b (h.ol.lt b e).2 (h.ol.lt b e).1, h.p01, h.p0l, h.p1l⟩
theorem DiskOwn.below {w w' : World} {base : Nat} {v0 v1 vl : Value} {d : DiskM} (h : DiskOwn w base v0 v1 vl d) (hb : Below w.heap.size w w') : DiskOwn w' base v0 v1 vl d := h.kept fun b hb' _ => hb.block b hb'
theorem DiskOwn.base {w : World} {base base' : Nat} {v0 v1 vl : Value} {d : DiskM} (h : DiskOwn w base v0 v1 vl d) (hb : base' ≤ base) : DiskOwn w base' v0 v1 vl d :=
  ⟨own_base h.o0 hb, own_base h.o1 hb, own_base h.ol hb, h.p01, h.p0l, h.p1l⟩
/-- Short enough for the laws. -/
structure DiskShort (d : DiskM) : Prop where
  n0 : d.s0.length ≤ 1048576
  n1 : d.s1.length ≤ 1048576
  nl : d.late.length ≤ 1048576
  z0 : ∀ s ∈ d.s0, s.size ≤ 1048576
  z1 : ∀ s ∈ d.s1, s.size ≤ 1048576
  zl : ∀ x ∈ d.late, x.text.size ≤ 1048576

theorem own4 {w : World} {base e sz n : Nat} {v : Value} {xs : List Value} (h : w.ownsRow base e sz v n xs) {a b c d : Addr} {x y z u : Value} (ha : a.block < base) (hb : b.block < base) (hc : c.block < base) (hd : d.block < base) :
    ((((w.setCell a x).setCell b y).setCell c z).setCell d u).ownsRow base e sz v n xs :=
  ownsRow_setCell_below (ownsRow_setCell_below (ownsRow_setCell_below (ownsRow_setCell_below h ha _) hb _) hc _) hd _

def NewDisk (w : World) (d : DiskM) (e : Ending) (w' : World) : Prop :=
  ∃ v0 v1 vl, e = .returned (.agg #[v0, v1, vl]) ∧ DiskOwn w' w.heap.size v0 v1 vl d ∧ Below w.heap.size w w'

set_option maxHeartbeats 400000 in
theorem toDisk_any (v0 v1 vl : Value) (d : DiskM) (w : World) (h : DiskR w v0 v1 vl d) (hs : DiskShort d) :
    Calls Tryz.prog 20 #[.agg #[v0, v1, vl]] w (NewDisk w d) := by
  have HD := Lib.hid h
  have HS := Lib.hid hs
  clear h hs
  go_enter Tryz.func20, Tryz.ntmps20
  go_wp2_with fail
  obtain ⟨hA, hR, hU, hsz, hB⟩ := box3 w #[v0, v1, vl] #[.slice none 0 0, .slice none 0 0, .slice none 0 0] #[.slice none 0 0, .slice none 0 0, .slice none 0 0] 46 36 36
  have HD1 := Lib.hid (HD.out.below hB)
  refine (toStringSA2_any v0 v1 d.s0 d.s1 _ HD1.out.r0 HD1.out.r1 HD1.out.l0 HD1.out.l1 HS.out.n0 HS.out.n1).mono ?_
  rintro e w2 ⟨u0, u1, rfl, ho0, ho1, hp, hb⟩
  have HA := Lib.hid (hA.below hb (by omega))
  have HR := Lib.hid (hR.below hb (by omega))
  have HU := Lib.hid (hU.below hb (by omega))
  have HB := Lib.hid (hB.trans (hb.mono (by omega)))
  have HD2 := Lib.hid (HD1.out.below hb)
  have hsz2 : w.heap.size + 3 ≤ w2.heap.size := by have := hb.size; omega
  obtain ⟨_, A0, c0, rfl, _⟩ := sl_of_own ho0
  obtain ⟨_, A1, c1, rfl, _⟩ := sl_of_own ho1
  have HO0 := Lib.hid (own_base ho0 (base' := w.heap.size + 3) (by omega))
  have HO1 := Lib.hid (own_base ho1 (base' := w.heap.size + 3) (by omega))
  have HP := Lib.hid hp
  clear ho0 ho1 hp hb hA hR hU hB HD1 hsz
  obtain ⟨x0, x1, x2⟩ := HA.out.three
  obtain ⟨y0, y1, y2⟩ := HU.out.three
  have f0 := HU.out.open_ 0
  have f1 := HU.out.open_ 1
  go_wp2_with fail
  have hu3 := (HU.out.set 0 (.slice A0 d.s0.length c0)).set 1 (.slice A1 d.s1.length c1)
  have hr3 := (HR.out.other (p := ⟨w.heap.size + 1 + 1, 0, none⟩) (by simp) (.slice A0 d.s0.length c0)).other (p := ⟨w.heap.size + 1 + 1, 1, none⟩) (by simp) (.slice A1 d.s1.length c1)
  have hb3 := (HB.out.setCell (p := ⟨w.heap.size + 1 + 1, 0, none⟩) (by simp; omega) (.slice A0 d.s0.length c0)).setCell (p := ⟨w.heap.size + 1 + 1, 1, none⟩) (by simp; omega) (.slice A1 d.s1.length c1)
  have ho0 := ownsRow_setCell_below (ownsRow_setCell_below HO0.out (a := ⟨w.heap.size + 1 + 1, 0, none⟩) (by simp) (.slice A0 d.s0.length c0)) (a := ⟨w.heap.size + 1 + 1, 1, none⟩) (by simp) (.slice A1 d.s1.length c1)
  have ho1 := ownsRow_setCell_below (ownsRow_setCell_below HO1.out (a := ⟨w.heap.size + 1 + 1, 0, none⟩) (by simp) (.slice A0 d.s0.length c0)) (a := ⟨w.heap.size + 1 + 1, 1, none⟩) (by simp) (.slice A1 d.s1.length c1)
  have hsz3 : w.heap.size + 3 ≤ ((w2.setCell ⟨w.heap.size + 1 + 1, 0, none⟩ (.slice A0 d.s0.length c0)).setCell ⟨w.heap.size + 1 + 1, 1, none⟩ (.slice A1 d.s1.length c1)).heap.size := by simpa using hsz2
  refine (toDiskLateS_any vl d.late _ (HD.out.rl.below hb3 HD.out.ll) (HD.out.ll.mono hb3.size) HS.out.nl).mono ?_
  rintro e w3 ⟨ul, rfl, hol, hb⟩
  have HR3 := Lib.hid (hr3.below hb (by omega))
  have HU3 := Lib.hid (hu3.below hb (by omega))
  have HB3 := Lib.hid (hb3.trans (hb.mono (by omega)))
  have HP0 := Lib.hid (show Apart _ ul from fun g e e' => by have := (ho0.lt g e).2; have := (hol.lt g e').1; omega)
  have HP1 := Lib.hid (show Apart _ ul from fun g e e' => by have := (ho1.lt g e).2; have := (hol.lt g e').1; omega)
  have HO0' := Lib.hid (own_kept ho0 (w' := w3) (fun b e => hb.block b (ho0.lt b e).2))
  have HO1' := Lib.hid (own_kept ho1 (w' := w3) (fun b e => hb.block b (ho1.lt b e).2))
  have HOL := Lib.hid (own_base hol (base' := w.heap.size + 3) hsz3)
  obtain ⟨_, Al, cl, rfl, _⟩ := sl_of_own hol
  clear hu3 hr3 hb3 ho0 ho1 hsz3 hol hb HO0 HO1 HA HR HU HB HD2 hsz2 x0 x1 x2 y0 y1 y2 f0 f1
  obtain ⟨y0, y1, y2⟩ := HU3.out.three
  obtain ⟨z0, z1, z2⟩ := HR3.out.three
  have f2 := HU3.out.open_ 2
  have g0 := HR3.out.open_ 0
  have g1 := HR3.out.open_ 1
  have g2 := HR3.out.open_ 2
  go_wp2
  have q1 := (HR3.out.other (p := ⟨w.heap.size + 1 + 1, 2, none⟩) (by simp) (.slice Al d.late.length cl)).set 0 (.slice A0 d.s0.length c0)
  have q2 := q1.set 1 (.slice A1 d.s1.length c1)
  have q3 := q2.set 2 (.slice Al d.late.length cl)
  refine bodyPost_ret (v := .agg #[.slice A0 d.s0.length c0, .slice A1 d.s1.length c1, .slice Al d.late.length cl]) (by simp [results, Tryz.results20, go_sem, q1.cell 0 rfl, q2.cell 1 rfl, q3.cell 2 rfl]) rfl ⟨_, _, _, rfl, ?_, ?_⟩
  · exact ⟨own_base (own4 HO0'.out (by simp) (by simp) (by simp) (by simp)) (by omega), own_base (own4 HO1'.out (by simp) (by simp) (by simp) (by simp)) (by omega), own_base (own4 HOL.out (by simp) (by simp) (by simp) (by simp)) (by omega), HP.out, HP0.out, HP1.out⟩
  · exact (((HB3.out.setCell (by simp; omega) _).setCell (by simp) _).setCell (by simp) _).setCell (by simp) _
end Go.Proofs.YtgjlhokakcdpbaaGreatDoor

/-
  Disks compared, sized, marked, asked for marks.
-/
set_option maxRecDepth 100000
namespace Go.Proofs.YtgjlhokakcdpbaaGreatDoor
open Go.ChangeShapes Go.WideShapes Go.ChangeAt Go.RowKit Go.Proofs.Palim

set_option maxHeartbeats 400000 in
theorem eqDisk_same (a0 a1 al b0 b1 bl : Value) (d : DiskM) (w : World) (ha : DiskR w a0 a1 al d) (hb : DiskR w b0 b1 bl d) (hs : DiskShort d) :
    Calls Tryz.prog 24 #[.agg #[a0, a1, al], .agg #[b0, b1, bl]] w fun e w' => e = .returned (.bool true) ∧ Below w.heap.size w w' := by
  have hnot : ∀ (x : Bool) (w : World), (Op.unary .not (.bool x)).run Tryz.prog w = .ok (.bool (!x)) w := fun _ _ => rfl
  have HA := Lib.hid ha
  have HC := Lib.hid hb
  have HS := Lib.hid hs
  clear ha hb hs
  go_enter Tryz.func24, Tryz.ntmps24
  go_wp2_with fail
  obtain ⟨hA, hC, hsz, hB⟩ := box2 w #[a0, a1, al] #[b0, b1, bl] 36 36
  have HA1 := Lib.hid (HA.out.below hB)
  have HC1 := Lib.hid (HC.out.below hB)
  refine (eqStringSA2_same a0 a1 b0 b1 d.s0 d.s1 _ HA1.out.r0 HA1.out.r1 HC1.out.r0 HC1.out.r1 HA1.out.l0 HA1.out.l1 HC1.out.l0 HC1.out.l1 HS.out.n0 HS.out.n1).mono ?_
  rintro e w2 ⟨rfl, hb⟩
  have HX := Lib.hid (hA.below hb (by omega))
  have HY := Lib.hid (hC.below hb (by omega))
  have HB := Lib.hid (hB.trans (hb.mono (by omega)))
  have HA2 := Lib.hid (HA1.out.below hb)
  have HC2 := Lib.hid (HC1.out.below hb)
  clear hA hC hsz hB hb HA1 HC1
  obtain ⟨x0, x1, x2⟩ := HX.out.three
  obtain ⟨y0, y1, y2⟩ := HY.out.three
  go_wp2_with fail
  refine (eqDiskLateS_same al bl d.late _ HA2.out.rl HC2.out.rl HA2.out.ll HC2.out.ll HS.out.nl).mono ?_
  rintro e w3 ⟨rfl, hb⟩
  have HB3 := Lib.hid (HB.out.trans (hb.mono HB.out.size))
  clear hb HB HX HY HA2 HC2 x0 x1 x2 y0 y1 y2
  go_wp2
  go_ret
  exact ⟨rfl, HB3.out⟩

def dsz (d : DiskM) : Nat := d.s0.length + tot d.s0 + (d.s1.length + tot d.s1) + (d.late.length + tot (d.late.map (·.text)))

set_option maxHeartbeats 400000 in
theorem szDisk_any (a0 a1 al : Value) (d : DiskM) (left : Int) (w : World) (ha : DiskR w a0 a1 al d) (hz0 : ∀ s ∈ d.s0, s.size ≤ maxLen) (hz1 : ∀ s ∈ d.s1, s.size ≤ maxLen) (hzl : ∀ x ∈ d.late, x.text.size ≤ maxLen) (hl0 : 0 ≤ left) (hl1 : left ≤ 1048576) :
    Calls Tryz.prog 16 #[.agg #[a0, a1, al], .int .i64 left] w fun e w' => (∃ r : Int, e = .returned (.int .i64 r) ∧ (r = -1 ∨ 0 ≤ r ∧ r + (dsz d : Nat) = left)) ∧ Below w.heap.size w w' := by
  have HA := Lib.hid ha
  have HZ0 := Lib.hid hz0
  have HZ1 := Lib.hid hz1
  have HZL := Lib.hid hzl
  clear ha hz0 hz1 hzl
  go_enter Tryz.func16, Tryz.ntmps16
  go_wp2_with fail
  obtain ⟨hA, hsz, hB⟩ := box1 w #[a0, a1, al] 46
  have HA1 := Lib.hid (HA.out.below hB)
  refine (szStringSA2_any a0 a1 d.s0 d.s1 left _ HA1.out.r0 HA1.out.r1 HA1.out.l0 HA1.out.l1 HZ0.out HZ1.out hl0 hl1).mono ?_
  rintro e w2 ⟨⟨r, rfl, hr⟩, hb⟩
  have HX := Lib.hid (hA.below hb (by omega))
  have HB := Lib.hid (hB.trans (hb.mono (by omega)))
  have HA2 := Lib.hid (HA1.out.below hb)
  clear hA hsz hB hb HA1
  obtain ⟨x0, x1, x2⟩ := HX.out.three
  rcases hr with rfl | ⟨hr0, hr1⟩
  · go_wp2
    go_ret
    exact ⟨⟨-1, rfl, Or.inl rfl⟩, HB.out⟩
  · have hr2 : ¬ r < 0 := by omega
    have hr3 : r ≤ 1048576 := by omega
    have HR := Lib.hid hr1
    clear hr1
    go_wp2_with fail
    refine (szDiskLateS_any al d.late r _ HA2.out.rl HA2.out.ll HZL.out hr0 hr3).mono ?_
    rintro e w3 ⟨⟨q, rfl, hq⟩, hb⟩
    have HB3 := Lib.hid (HB.out.trans (hb.mono HB.out.size))
    clear hb HB HX HA2 x0 x1 x2
    rcases hq with rfl | ⟨hq0, hq1⟩
    · go_wp2
      go_ret
      exact ⟨⟨-1, rfl, Or.inl rfl⟩, HB3.out⟩
    · have hq2 : ¬ q < 0 := by omega
      have HQ := Lib.hid hq1
      clear hq1
      go_wp2
      go_ret
      exact ⟨⟨q, rfl, Or.inr ⟨hq0, by have := HQ.out; have := HR.out; unfold dsz; omega⟩⟩, HB3.out⟩

/-- The disk of marks from k on. -/
def dmarks (k n0 n1 nl : Nat) : DiskM := ⟨marks k n0, marks (k + n0) n1, lmarks (k + n0 + n1) nl⟩
def DTurns (v0 v1 vl : Value) (b : Nat) : Prop := v0.ownBlock = some b ∨ v1.ownBlock = some b ∨ vl.ownBlock = some b
def MarkedDisk (k : Nat) (v0 v1 vl : Value) (base n0 n1 nl : Nat) (w : World) (e : Ending) (w' : World) : Prop :=
  e = .returned (.int .i64 ((k + n0 + n1 + 3 * nl : Nat) : Int)) ∧ DiskOwn w' base v0 v1 vl (dmarks k n0 n1 nl) ∧ Turned (DTurns v0 v1 vl) w w'

set_option maxHeartbeats 400000 in
theorem markDisk_any (v0 v1 vl : Value) (d : DiskM) (k base : Nat) (w : World) (h : DiskOwn w base v0 v1 vl d) (hs : DiskShort d) (hk0 : 1 ≤ k) (hk1 : k ≤ 80000000) :
    Calls Tryz.prog 26 #[.agg #[v0, v1, vl], .int .i64 (k : Int)] w (MarkedDisk k v0 v1 vl base d.s0.length d.s1.length d.late.length w) := by
  have HA := Lib.hid h
  have HS := Lib.hid hs
  have hn0 := hs.n0
  have hn1 := hs.n1
  have hnl := hs.nl
  obtain ⟨n0, H0⟩ : ∃ n, Hid (d.s0.length = n) := ⟨_, Lib.hid rfl⟩
  obtain ⟨n1, H1⟩ : ∃ n, Hid (d.s1.length = n) := ⟨_, Lib.hid rfl⟩
  obtain ⟨nl, HL⟩ : ∃ n, Hid (d.late.length = n) := ⟨_, Lib.hid rfl⟩
  rw [H0.out] at hn0 ⊢
  rw [H1.out] at hn1 ⊢
  rw [HL.out] at hnl ⊢
  clear h hs
  go_enter Tryz.func26, Tryz.ntmps26
  go_wp2_with fail
  obtain ⟨hA, hsz, hB⟩ := box1 w #[v0, v1, vl] 36
  have HA1 := Lib.hid (HA.out.below hB)
  refine (markStringSA2_any v0 v1 n0 n1 k base _ _ _ (H0.out ▸ HA1.out.o0) (H1.out ▸ HA1.out.o1) HA.out.p01 hn0 hn1 hk0 (by omega)).mono ?_
  rintro e w2 ⟨rfl, ho0, ho1, ht⟩
  have HX := Lib.hid (hA.turned ht (fun e => e.elim (fun e => by have := (HA.out.o0.lt _ e).2; omega) (fun e => by have := (HA.out.o1.lt _ e).2; omega)))
  have HT := Lib.hid ((turned_of_below hB : Turned (DTurns v0 v1 vl) _ _).trans (ht.mono (fun b _ e => e.elim Or.inl (fun e => Or.inr (Or.inl e)))))
  have HO0 := Lib.hid ho0
  have HO1 := Lib.hid ho1
  have HOL := Lib.hid (show w2.ownsRow base 103 3 vl nl (lcs d.late) from HL.out ▸ own_kept HA1.out.ol (w' := w2) (fun b e => ht.block b (HA1.out.ol.lt b e).2 (fun e' => e'.elim (fun e' => HA.out.p0l b e' e) (fun e' => HA.out.p1l b e' e))))
  clear hA hsz hB ho0 ho1 ht HA1
  obtain ⟨x0, x1, x2⟩ := HX.out.three
  obtain ⟨kk, HK⟩ : ∃ kk, Hid (k + n0 + n1 = kk) := ⟨_, Lib.hid rfl⟩
  have hkk0 : 1 ≤ kk := by have := HK.out; omega
  have hkk1 : kk ≤ 100000000 := by have := HK.out; omega
  rw [HK.out]
  go_wp2_with fail
  refine (markDiskLateS_any vl nl kk base _ _ HOL.out hnl hkk0 hkk1).mono ?_
  rintro e w3 ⟨rfl, hol, ht⟩
  have HT3 := Lib.hid (HT.out.trans (ht.mono (fun b _ e => Or.inr (Or.inr e))))
  have HO0' := Lib.hid (own_kept HO0.out (w' := w3) (fun b e => ht.block b (HO0.out.lt b e).2 (fun e' => HA.out.p0l b e e')))
  have HO1' := Lib.hid (own_kept HO1.out (w' := w3) (fun b e => ht.block b (HO1.out.lt b e).2 (fun e' => HA.out.p1l b e e')))
  have HOL' := Lib.hid hol
  clear hol ht HT HO0 HO1 HOL HX x0 x1 x2
  go_wp2
  go_ret
  refine ⟨ret_int (by rw [HK.out]; omega), ⟨?_, ?_, ?_, HA.out.p01, HA.out.p0l, HA.out.p1l⟩, HT3.out⟩
  · simpa [dmarks, marks_length] using HO0'.out
  · simpa [dmarks, marks_length] using HO1'.out
  · simpa [dmarks, lmarks_length, HK.out] using HOL'.out

set_option maxHeartbeats 400000 in
theorem heldDisk_any (v0 v1 vl : Value) (n0 n1 nl k : Nat) (w : World) (h : DiskR w v0 v1 vl (dmarks k n0 n1 nl)) (hn0 : n0 ≤ 1048576) (hn1 : n1 ≤ 1048576) (hnl : nl ≤ 1048576) (hk0 : 1 ≤ k) (hk1 : k ≤ 80000000) :
    Calls Tryz.prog 28 #[.agg #[v0, v1, vl], .int .i64 (k : Int)] w (HeldPost ((k + n0 + n1 + 3 * nl : Nat) : Int) w) := by
  have HA := Lib.hid h
  clear h
  go_enter Tryz.func28, Tryz.ntmps28
  go_wp2_with fail
  obtain ⟨hA, hsz, hB⟩ := box1 w #[v0, v1, vl] 36
  have HA1 := Lib.hid (HA.out.below hB)
  refine (heldStringSA2_any v0 v1 n0 n1 k _ (by simpa [dmarks, marks_length] using HA1.out.r0) (by simpa [dmarks, marks_length] using HA1.out.r1) HA1.out.l0 HA1.out.l1 hn0 hn1 hk0 (by omega)).mono ?_
  rintro e w2 ⟨rfl, hb⟩
  have HX := Lib.hid (hA.below hb (by omega))
  have HB := Lib.hid (hB.trans (hb.mono (by omega)))
  have HA2 := Lib.hid (HA1.out.below hb)
  clear hA hsz hB hb HA1
  obtain ⟨x0, x1, x2⟩ := HX.out.three
  obtain ⟨kk, HK⟩ : ∃ kk, Hid (k + n0 + n1 = kk) := ⟨_, Lib.hid rfl⟩
  have hkk0 : 1 ≤ kk := by have := HK.out; omega
  have hkk1 : kk ≤ 100000000 := by have := HK.out; omega
  have HSL := Lib.hid (show Sl w2 3 vl nl (lcs (lmarks kk nl)) from by rw [← HK.out]; simpa [dmarks, lmarks_length] using HA2.out.rl)
  rw [HK.out]
  have hnn : ¬ (kk : Int) < 0 := by omega
  go_wp2_with fail
  refine (heldDiskLateS_any vl nl kk _ HSL.out HA2.out.ll hnl hkk0 hkk1).mono ?_
  rintro e w3 ⟨rfl, hb⟩
  have HB3 := Lib.hid (HB.out.trans (hb.mono HB.out.size))
  clear hb HB HX HA2 HSL x0 x1 x2
  have hnm : ¬ ((kk + 3 * nl : Nat) : Int) < 0 := by omega
  go_wp2
  go_ret
  exact ⟨ret_int (by rw [HK.out]; omega), HB3.out⟩
end Go.Proofs.YtgjlhokakcdpbaaGreatDoor

/-
  Which disks are valid: spec's DiskOk.
-/
set_option maxRecDepth 100000
namespace Go.Proofs.YtgjlhokakcdpbaaGreatDoor
open Go.ChangeShapes Go.WideShapes Go.ChangeAt Go.RowKit Go.Proofs.Palim

/-- There is such a sector, and the text fits. -/
def There (n : Nat) (side at_ : Int) (size : Nat) : Prop := 0 ≤ side ∧ side ≤ 1 ∧ 0 ≤ at_ ∧ at_ < n ∧ size ≤ 420
instance (n : Nat) (side at_ : Int) (size : Nat) : Decidable (There n side at_ size) := by unfold There; infer_instance

theorem ret_bool {a b : Bool} (h : a = b) : Ending.returned (.bool a) = Ending.returned (.bool b) := by rw [h]

theorem dec_eq {a b : Bool} (h : a = true ↔ b = true) : a = b := by cases a <;> cases b <;> simp_all

set_option maxHeartbeats 400000 in
theorem l2There_any (v1 vl : Value) (A : Option Addr) (n c : Nat) (side at_ : Int) (s : ByteArray) (w : World) (hs : s.size ≤ maxLen) :
    Calls Tryz.prog 128 #[.agg #[.slice A n c, v1, vl], .int .i64 side, .int .i64 at_, .string s] w fun e w' => e = .returned (.bool (decide (There n side at_ s.size))) ∧ Below w.heap.size w w' := by
  unfold maxLen at hs
  go_enter Tryz.func128, Tryz.ntmps128
  go_wp2
  all_goals
    go_ret
    exact ⟨ret_bool (dec_eq (by simp only [decide_eq_true_eq, Bool.false_eq_true, false_iff]; unfold There; omega)), (Below.refl _ _).alloc (Nat.le_refl _) _⟩

theorem l2There_is (v1 vl : Value) (A : Option Addr) (n c : Nat) (side at_ : Int) (s : ByteArray) (w : World) (hs : s.size ≤ maxLen) (r : Bool) (hr : decide (There n side at_ s.size) = r) :
    Calls Tryz.prog 128 #[.agg #[.slice A n c, v1, vl], .int .i64 side, .int .i64 at_, .string s] w fun e w' => e = .returned (.bool r) ∧ Below w.heap.size w w' := hr ▸ l2There_any v1 vl A n c side at_ s w hs

def DiskOkM (d : DiskM) : Prop := 1 ≤ d.s0.length ∧ d.s0.length ≤ 120 ∧ d.s1.length = d.s0.length ∧ d.late.length ≤ 600 ∧ (∀ s ∈ d.s0, s.size ≤ 420) ∧ (∀ s ∈ d.s1, s.size ≤ 420) ∧ ∀ x ∈ d.late, There d.s0.length x.side x.at_ x.text.size
instance (d : DiskM) : Decidable (DiskOkM d) := by unfold DiskOkM; infer_instance

set_option maxHeartbeats 2000000 in
theorem DiskOk_any (v0 v1 vl : Value) (d : DiskM) (w : World) (h : DiskR w v0 v1 vl d) (hs : DiskShort d) :
    Calls Tryz.prog 65 #[.agg #[v0, v1, vl]] w fun e w' => e = .returned (.bool (decide (DiskOkM d))) ∧ Below w.heap.size w w' := by
  obtain ⟨_, A0, c0, rfl, _⟩ := h.r0
  obtain ⟨_, A1, c1, rfl, _⟩ := h.r1
  obtain ⟨_, Al, cl, rfl, _⟩ := h.rl
  have hn0 := hs.n0
  have hn1 := hs.n1
  have hnl := hs.nl
  have HD := Lib.hid h
  have HS := Lib.hid hs
  clear h hs
  obtain ⟨n0, H0⟩ : ∃ n, Hid (d.s0.length = n) := ⟨_, Lib.hid rfl⟩
  obtain ⟨n1, H1⟩ : ∃ n, Hid (d.s1.length = n) := ⟨_, Lib.hid rfl⟩
  obtain ⟨nl, HL⟩ : ∃ n, Hid (d.late.length = n) := ⟨_, Lib.hid rfl⟩
  rw [H0.out] at hn0 HD ⊢
  rw [H1.out] at hn1 HD ⊢
  rw [HL.out] at hnl HD ⊢
  by_cases hok : 1 ≤ n0 ∧ n0 ≤ 120 ∧ n1 = n0 ∧ nl ≤ 600
  · obtain ⟨k1, k2, k3, k4⟩ := hok
    subst k3
    obtain ⟨b0, o0, c0', e0, hc0, hm0, hcell0⟩ := HD.out.r0.form (by have := H0.out; omega)
    obtain ⟨b1, o1, c1', e1, hc1, hm1, hcell1⟩ := HD.out.r1.form (by have := H1.out; omega)
    injection e0 with e0 e0' e0''
    injection e1 with e1 e1' e1''
    subst e0 e1 e0'' e1''
    have HC0 := Lib.hid hcell0
    have HC1 := Lib.hid hcell1
    rw [H0.out] at hc0
    rw [H1.out] at hc1
    have hbl0 : b0 < w.heap.size := HD.out.l0 b0 rfl
    have hbl1 : b1 < w.heap.size := HD.out.l1 b1 rfl
    unfold maxLen at hm0 hm1
    clear hcell0 hcell1 e0' e1'
    go_enter Tryz.func65, Tryz.ntmps65
    go_wp2
    go_loopw [4] (fun i wr => ∃ k : Nat, k ≤ n1 ∧ i = .int .i64 (k : Int) ∧ wr = w.alloc (.cells #[.slice (some ⟨b0, o0, none⟩) n1 c0, .slice (some ⟨b1, o1, none⟩) n1 c1, .slice Al nl cl] 36) ∧ Hid (∀ (j : Nat) (h0 : j < d.s0.length) (h1 : j < d.s1.length), j < k → d.s0[j].size ≤ 420 ∧ d.s1[j].size ≤ 420)) (fun i _ => n1 - (intOf i).toNat)
    case atStart => exact ⟨0, Nat.zero_le _, rfl, rfl, Lib.hid (fun j _ _ h => absurd h (Nat.not_lt_zero _))⟩
    case round =>
      obtain ⟨k, hk, rfl, rfl, HK⟩ := hrel
      by_cases hlt : k < n1
      · have hl0 : k < d.s0.length := by rw [H0.out]; exact hlt
        have hl1 : k < d.s1.length := by rw [H1.out]; exact hlt
        have g0 := HC0.out k _ (scs_at d.s0 k hl0)
        have g1 := HC1.out k _ (scs_at d.s1 k hl1)
        have z0 := HS.out.z0 _ (List.getElem_mem hl0)
        have z1 := HS.out.z1 _ (List.getElem_mem hl1)
        have HK1 := Lib.hid (show (d.s0[k].size ≤ 420 ∧ d.s1[k].size ≤ 420) → ∀ (j : Nat) (h0 : j < d.s0.length) (h1 : j < d.s1.length), j < k + 1 → d.s0[j].size ≤ 420 ∧ d.s1[j].size ≤ 420 from fun hh j h0 h1 hj => by
          rcases Nat.lt_succ_iff_lt_or_eq.1 hj with h | rfl
          · exact HK.out j h0 h1 h
          · exact hh)
        have HN := Lib.hid (show ¬ (d.s0[k].size ≤ 420 ∧ d.s1[k].size ≤ 420) → ¬ DiskOkM d from fun hh q => hh ⟨q.2.2.2.2.1 _ (List.getElem_mem hl0), q.2.2.2.2.2.1 _ (List.getElem_mem hl1)⟩)
        generalize d.s0[k] = x0 at g0 z0 HK1 HN
        generalize d.s1[k] = x1 at g1 z1 HK1 HN
        clear hl0 hl1
        by_cases hx : x0.size ≤ 420 ∧ x1.size ≤ 420
        · have HK2 := Lib.hid (HK1.out hx)
          obtain ⟨hx0, hx1⟩ := hx
          clear HK HK1 HN
          go_wp2
          go_roundw
          case rel => exact ⟨k + 1, by omega, by go_num, by first | trivial | rfl, HK2⟩
          case measure => simp [intOf]; omega
        · have HF := Lib.hid (decide_eq_false (HN.out hx)).symm
          have hx' : 420 < x0.size ∨ (x0.size ≤ 420 ∧ 420 < x1.size) := by omega
          clear HK HK1 HN hx
          rcases hx' with hx0 | ⟨hx0, hx1⟩
          all_goals
            go_wp2
            go_ret
            exact ⟨ret_bool HF.out, (Below.refl _ _).alloc (Nat.le_refl _) _⟩
      · have HK2 := Lib.hid (show ∀ (j : Nat) (h0 : j < d.s0.length) (h1 : j < d.s1.length), d.s0[j].size ≤ 420 ∧ d.s1[j].size ≤ 420 from fun j h0 h1 => HK.out j h0 h1 (by have := H0.out; omega))
        clear HK
        go_wp2
        go_loopw [5] (fun i wr => ∃ k : Nat, k ≤ nl ∧ i = .int .i64 (k : Int) ∧ Hid (Box wr w.heap.size [.slice (some ⟨b0, o0, none⟩) n1 c0, .slice (some ⟨b1, o1, none⟩) n1 c1, .slice Al nl cl]) ∧ w.heap.size + 1 ≤ wr.heap.size ∧ Hid (Below w.heap.size w wr) ∧ Hid (∀ (j : Nat) (h : j < d.late.length), j < k → There n1 d.late[j].side d.late[j].at_ d.late[j].text.size)) (fun i _ => nl - (intOf i).toNat)
        case atStart => exact ⟨0, Nat.zero_le _, rfl, Lib.hid (box_new _ _ _), by simp, Lib.hid ((Below.refl _ _).alloc (Nat.le_refl _) _), Lib.hid (fun j _ h => absurd h (Nat.not_lt_zero _))⟩
        case round =>
          clear hk hlt
          obtain ⟨k, hk, rfl, HX, hsz, HB, HK⟩ := hrel
          obtain ⟨x0, x1, x2⟩ := HX.out.three
          by_cases hlt : k < nl
          · have hll : k < d.late.length := by rw [HL.out]; exact hlt
            obtain ⟨bl, ol, cl', el, hcl, hml, hcell⟩ := HD.out.rl.form (by have := HL.out; omega)
            injection el with el el' el''
            subst el el''
            rw [HL.out] at hcl
            unfold maxLen at hml
            have hbll : bl < w.heap.size := HD.out.ll bl rfl
            have hrd := late_read (fun j u hu => (HB.out.cell hbll).trans (hcell j u hu)) k hll
            have hz : d.late[k].text.size ≤ maxLen := by have := HS.out.zl _ (List.getElem_mem hll); unfold maxLen; omega
            have HN := Lib.hid (show ¬ There n1 d.late[k].side d.late[k].at_ d.late[k].text.size → ¬ DiskOkM d from fun hh q => hh (by have := q.2.2.2.2.2.2 _ (List.getElem_mem hll); rwa [H0.out] at this))
            have HK1 := Lib.hid (show There n1 d.late[k].side d.late[k].at_ d.late[k].text.size → ∀ (j : Nat) (h : j < d.late.length), j < k + 1 → There n1 d.late[j].side d.late[j].at_ d.late[j].text.size from fun hh j h0 hj => by
              rcases Nat.lt_succ_iff_lt_or_eq.1 hj with h | rfl
              · exact HK.out j h0 h
              · exact hh)
            generalize d.late[k] = x at hrd HN HK1 hz
            obtain ⟨h1, h2, h3⟩ := hrd
            have hj1 : (k : Int) < (nl : Int) := by omega
            clear hcell el' hll
            by_cases hth : There n1 x.side x.at_ x.text.size
            · have HK2 := Lib.hid (HK1.out hth)
              replace hth := decide_eq_true hth
              clear HK HK1 HN
              go_wp2_with fail
              go_region_held3 (fun w' => w'.cell? ⟨w.heap.size, 0, none⟩ = some (.slice (some ⟨b0, o0, none⟩) n1 c0) ∧ w'.cell? ⟨w.heap.size, 1, none⟩ = some (.slice (some ⟨b1, o1, none⟩) n1 c1) ∧ w'.cell? ⟨w.heap.size, 2, none⟩ = some (.slice (some ⟨bl, ol, none⟩) nl cl) ∧ w'.cell? ⟨bl, ol + k * 3, none⟩ = some (.int .i64 x.side) ∧ w'.cell? ⟨bl, ol + k * 3 + 1, none⟩ = some (.int .i64 x.at_) ∧ w'.cell? ⟨bl, ol + k * 3 + 2, none⟩ = some (.string x.text))
                (first
                  | go_keep
                  | (go_split_ands
                     refine ⟨?_, ?_, ?_, ?_, ?_, ?_⟩
                     all_goals (rw [hb2.cell (by simp <;> omega)]; assumption)))
                ((go_at_call 128; ((with_reducible refine (l2There_is _ _ _ n1 c0 x.side x.at_ x.text _ hz true hth).mono ?_); rintro e w2 ⟨rfl, hb2⟩)))
              all_goals
                have HB2 := Lib.hid (HB.out.drew.trans (hb2.mono (by simp; omega)))
                have HX2 := Lib.hid (HX.out.drew.below hb2 (by simp; omega))
                have hsz2 : w.heap.size + 1 ≤ w2.heap.size := Nat.le_trans hsz hb2.size
                clear HB hb2 h1 h2 h3 HX x0 x1 x2 hth hz
                go_wp2
                go_roundw
                case rel => exact ⟨k + 1, by omega, by go_num, HX2, hsz2, HB2, HK2⟩
                case measure => simp [intOf]; omega
            · have HF := Lib.hid (decide_eq_false (HN.out hth)).symm
              replace hth := decide_eq_false hth
              clear HK HK1 HN
              go_wp2_with fail
              go_region_held3 (fun w' => w'.cell? ⟨w.heap.size, 0, none⟩ = some (.slice (some ⟨b0, o0, none⟩) n1 c0) ∧ w'.cell? ⟨w.heap.size, 1, none⟩ = some (.slice (some ⟨b1, o1, none⟩) n1 c1) ∧ w'.cell? ⟨w.heap.size, 2, none⟩ = some (.slice (some ⟨bl, ol, none⟩) nl cl) ∧ w'.cell? ⟨bl, ol + k * 3, none⟩ = some (.int .i64 x.side) ∧ w'.cell? ⟨bl, ol + k * 3 + 1, none⟩ = some (.int .i64 x.at_) ∧ w'.cell? ⟨bl, ol + k * 3 + 2, none⟩ = some (.string x.text))
                (first
                  | go_keep
                  | (go_split_ands
                     refine ⟨?_, ?_, ?_, ?_, ?_, ?_⟩
                     all_goals (rw [hb2.cell (by simp <;> omega)]; assumption)))
                ((go_at_call 128; ((with_reducible refine (l2There_is _ _ _ n1 c0 x.side x.at_ x.text _ hz false hth).mono ?_); rintro e w2 ⟨rfl, hb2⟩)))
              all_goals
                have HB2 := Lib.hid (HB.out.drew.trans (hb2.mono (by simp; omega)))
                clear HB hb2 h1 h2 h3 HX x0 x1 x2 hth hz
                go_wp2
                go_ret
                exact ⟨ret_bool HF.out, HB2.out⟩
          · have HT := Lib.hid (show DiskOkM d from ⟨by have := H0.out; omega, by have := H0.out; omega, by have := H0.out; have := H1.out; omega, by have := HL.out; omega,
              fun s hs => by
                obtain ⟨i, hi, rfl⟩ := List.mem_iff_getElem.1 hs
                exact (HK2.out i hi (by have := H0.out; have := H1.out; omega)).1,
              fun s hs => by
                obtain ⟨i, hi, rfl⟩ := List.mem_iff_getElem.1 hs
                exact (HK2.out i (by have := H0.out; have := H1.out; omega) hi).2,
              fun s hs => by
                obtain ⟨i, hi, rfl⟩ := List.mem_iff_getElem.1 hs
                rw [H0.out]
                exact HK.out i hi (by have := HL.out; omega)⟩)
            clear HK
            go_wp2
            go_ret
            exact ⟨ret_bool (decide_eq_true HT.out).symm, HB.out⟩
  · have HN := Lib.hid (show ¬ DiskOkM d from fun q => hok ⟨by have := q.1; have := H0.out; omega, by have := q.2.1; have := H0.out; omega, by have := q.2.2.1; have := H0.out; have := H1.out; omega, by have := q.2.2.2.1; have := HL.out; omega⟩)
    rw [decide_eq_false HN.out]
    have ho : n0 < 1 ∨ (1 ≤ n0 ∧ 120 < n0) ∨ (1 ≤ n0 ∧ n0 ≤ 120 ∧ n1 ≠ n0) ∨ (1 ≤ n0 ∧ n0 ≤ 120 ∧ n1 = n0 ∧ 600 < nl) := by omega
    clear hok
    rcases ho with k1 | ⟨k1, k2⟩ | ⟨k1, k2, k3⟩ | ⟨k1, k2, k3, k4⟩
    all_goals
      go_enter Tryz.func65, Tryz.ntmps65
      go_wp2
      go_ret
      exact ⟨rfl, (Below.refl _ _).alloc (Nat.le_refl _) _⟩
end Go.Proofs.YtgjlhokakcdpbaaGreatDoor

/-
  spec's DiskOpen.
-/
set_option maxRecDepth 100000
namespace Go.Proofs.YtgjlhokakcdpbaaGreatDoor
open Go.ChangeShapes Go.WideShapes Go.ChangeAt Go.RowKit Go.Proofs.Palim

def noDisk : DiskM := ⟨[], [], []⟩
def openM (n : Int) : DiskM := if n < 1 ∨ n > 120 then noDisk else ⟨List.replicate n.toNat ⟨#[]⟩, List.replicate n.toNat ⟨#[]⟩, []⟩

theorem noDisk_own (w : World) (base : Nat) : DiskOwn w base (.slice none 0 0) (.slice none 0 0) (.slice none 0 0) noDisk :=
  ⟨⟨rfl, .inl ⟨rfl, rfl⟩⟩, ⟨rfl, .inl ⟨rfl, rfl⟩⟩, ⟨rfl, .inl ⟨rfl, rfl⟩⟩, fun _ e => by simp [Value.ownBlock] at e, fun _ e => by simp [Value.ownBlock] at e, fun _ e => by simp [Value.ownBlock] at e⟩

/-- A new slice of n empty strings. -/
theorem makeStrs (n : Nat) (hn : n ≤ 1048576) (w : World) :
    (Instr.makeSlice 32 (.int .i64 (n : Int)) (.int .i64 (n : Int))).run Tryz.prog w = .ok (.slice (some ⟨w.heap.size, 0, none⟩) n n) (w.alloc (.cells (madeCells #[.string ⟨#[]⟩] n) 9)) := by
  obtain ⟨i0, hi, hz0, hz1, hz2⟩ := info_parts infoStr
  have h := run_make (P := Tryz.prog) w 32 9 i0 _ Tryz.underlying32 hi hz0 .i64 .i64 n n (by omega) (by omega) (by rw [hz2]; omega) (by omega)
  simp only [Int.toNat_natCast, hz1, Nat.mul_one] at h
  exact h
theorem made_strs (n : Nat) : (madeCells #[Value.string ⟨#[]⟩] n).toList = scs (List.replicate n ⟨#[]⟩) := by
  apply List.ext_getElem
  · simp [madeCells, scs]
  · intro i h1 h2
    simp [madeCells, scs, Nat.mod_one]
theorem heap3 (w : World) (a b c : Obj) : (((w.alloc a).alloc b).alloc c).heap[w.heap.size + 1]? = some b ∧ (((w.alloc a).alloc b).alloc c).heap[w.heap.size + 1 + 1]? = some c := by
  constructor
  · rw [Below.heap_alloc _ _ _ (by simp)]
    have h : ((w.alloc a).heap.push b)[(w.alloc a).heap.size]? = some b := Array.getElem?_push_size
    rwa [show (w.alloc a).heap.size = w.heap.size + 1 by simp] at h
  · have h : (((w.alloc a).alloc b).heap.push c)[((w.alloc a).alloc b).heap.size]? = some c := Array.getElem?_push_size
    rwa [show ((w.alloc a).alloc b).heap.size = w.heap.size + 1 + 1 by simp] at h
theorem own_new {w : World} {base b e sz n : Nat} {c : Array Value} (h : w.heap[b]? = some (.cells c e (0, 0))) (hc : c.size = n * sz) (hn : n ≤ maxLen) (hb : base ≤ b) : w.ownsRow base e sz (.slice (some ⟨b, 0, none⟩) n n) n c.toList := by
  refine ⟨by simpa using hc, .inr ⟨b, n, c, rfl, hb, h, Nat.le_refl _, hn, by omega, ?_⟩⟩
  rw [List.take_of_length_le (by simp [hc])]
theorem own_made {w : World} {base b m : Nat} (h : w.heap[b]? = some (.cells (madeCells #[.string ⟨#[]⟩] m) 9 (0, 0))) (hn : m ≤ maxLen) (hb : base ≤ b) :
    w.ownsRow base 9 1 (.slice (some ⟨b, 0, none⟩) m m) (List.replicate m (⟨#[]⟩ : ByteArray)).length (scs (List.replicate m ⟨#[]⟩)) := by
  have h := own_new (sz := 1) h (by simp [size_madeCells]) hn hb
  rw [made_strs] at h
  rwa [List.length_replicate]

end Go.Proofs.YtgjlhokakcdpbaaGreatDoor

/-
  What the laws on disks have in common.
-/
set_option maxRecDepth 100000
namespace Go.Proofs.YtgjlhokakcdpbaaGreatDoor
open Go.ChangeShapes Go.WideShapes Go.ChangeAt Go.RowKit Go.Proofs.Palim

/-- The blocks of a disk lie below B. -/
structure DiskLow (B : Nat) (v0 v1 vl : Value) : Prop where
  l0 : Low B v0
  l1 : Low B v1
  ll : Low B vl
theorem DiskLow.mono {B B' : Nat} {v0 v1 vl : Value} (h : DiskLow B v0 v1 vl) (hB : B ≤ B') : DiskLow B' v0 v1 vl := ⟨h.l0.mono hB, h.l1.mono hB, h.ll.mono hB⟩
theorem DiskR.low {w : World} {v0 v1 vl : Value} {d : DiskM} (h : DiskR w v0 v1 vl d) : DiskLow w.heap.size v0 v1 vl := ⟨h.l0, h.l1, h.ll⟩
/-- A disk that lies below another one reads as it did when that one has been marked. -/
theorem DiskR.past {w w' : World} {v0 v1 vl u0 u1 ul : Value} {d d' : DiskM} {B : Nat} (h : DiskR w v0 v1 vl d) (ht : Turned (DTurns u0 u1 ul) w w') (hl : DiskLow B v0 v1 vl) (ho : DiskOwn w B u0 u1 ul d') : DiskR w' v0 v1 vl d := by
  have hn : ∀ b, b < B → ¬ DTurns u0 u1 ul b := by
    rintro b hb (e | e | e)
    · have := (ho.o0.lt b e).1; omega
    · have := (ho.o1.lt b e).1; omega
    · have := (ho.ol.lt b e).1; omega
  exact ⟨h.r0.kept fun b e => ht.block b (h.l0 b e) (hn b (hl.l0 b e)), h.r1.kept fun b e => ht.block b (h.l1 b e) (hn b (hl.l1 b e)), h.rl.kept fun b e => ht.block b (h.ll b e) (hn b (hl.ll b e)), h.l0.mono ht.size, h.l1.mono ht.size, h.ll.mono ht.size⟩
theorem DiskOwn.forms {w : World} {base : Nat} {v0 v1 vl : Value} {d : DiskM} (h : DiskOwn w base v0 v1 vl d) : ∃ A0 c0 A1 c1 Al cl, v0 = .slice A0 d.s0.length c0 ∧ v1 = .slice A1 d.s1.length c1 ∧ vl = .slice Al d.late.length cl := by
  obtain ⟨_, A0, c0, rfl, _⟩ := sl_of_own h.o0
  obtain ⟨_, A1, c1, rfl, _⟩ := sl_of_own h.o1
  obtain ⟨_, Al, cl, rfl, _⟩ := sl_of_own h.ol
  exact ⟨_, _, _, _, _, _, rfl, rfl, rfl⟩
/-- Below B nothing turns when a disk at or above B is marked. -/
theorem below_past {w w' : World} {u0 u1 ul : Value} {d' : DiskM} {B : Nat} (ht : Turned (DTurns u0 u1 ul) w w') (ho : DiskOwn w B u0 u1 ul d') (hB : B ≤ w.heap.size) : Below B w w' :=
  ht.below (fun b hb _ => by
    rintro (e | e | e)
    · have := (ho.o0.lt b e).1; omega
    · have := (ho.o1.lt b e).1; omega
    · have := (ho.ol.lt b e).1; omega) hB

theorem short_no : DiskShort noDisk := ⟨by simp [noDisk], by simp [noDisk], by simp [noDisk], by simp [noDisk], by simp [noDisk], by simp [noDisk]⟩
theorem short_open (n : Int) : DiskShort (openM n) := by
  unfold openM
  split
  · exact short_no
  · refine ⟨by simp; omega, by simp; omega, by simp, ?_, ?_, by simp⟩
    all_goals
      intro s hs
      rw [List.eq_of_mem_replicate hs]
      exact Nat.zero_le _

/-- The count of marks of a disk, from k on. -/
def dmend (k : Nat) (d : DiskM) : Nat := k + d.s0.length + d.s1.length + 3 * d.late.length
theorem dmend_small {d : DiskM} (hs : DiskShort d) {k : Nat} (hk : k ≤ 80000000) : dmend k d ≤ 90000000 := by have := hs.n0; have := hs.n1; have := hs.nl; unfold dmend; omega
/-- A disk in a box of its own: what the law's variables are. -/
structure Boxed (w : World) (x B : Nat) (v0 v1 vl : Value) (d : DiskM) : Prop where
  box : Box w x [v0, v1, vl]
  low : DiskLow B v0 v1 vl
  reads : DiskR w v0 v1 vl d
  lt : B ≤ x
theorem Boxed.below {w w' : World} {x B : Nat} {v0 v1 vl : Value} {d : DiskM} (h : Boxed w x B v0 v1 vl d) (hb : Below w.heap.size w w') : Boxed w' x B v0 v1 vl d := ⟨h.box.below hb h.box.lt, h.low, h.reads.below hb, h.lt⟩
theorem DiskOwn.past {w : World} {C x : Nat} {u0 u1 ul : Value} {d : DiskM} (h : DiskOwn w C u0 u1 ul d) (hx : x < C) : ¬ DTurns u0 u1 ul x := by
  rintro (e | e | e)
  · have := (h.o0.lt x e).1; omega
  · have := (h.o1.lt x e).1; omega
  · have := (h.ol.lt x e).1; omega
theorem DiskLow.past {B x : Nat} {u0 u1 ul : Value} (h : DiskLow B u0 u1 ul) (hx : B ≤ x) : ¬ DTurns u0 u1 ul x := by
  rintro (e | e | e)
  · have := h.l0 x e; omega
  · have := h.l1 x e; omega
  · have := h.ll x e; omega
theorem Boxed.past {w w' : World} {x B C : Nat} {v0 v1 vl u0 u1 ul : Value} {d d' : DiskM} (h : Boxed w x B v0 v1 vl d) (ht : Turned (DTurns u0 u1 ul) w w') (ho : DiskOwn w C u0 u1 ul d') (hx : x < C) : Boxed w' x B v0 v1 vl d :=
  ⟨h.box.turned ht (ho.past hx), h.low, h.reads.past ht (h.low.mono (by have := h.lt; omega)) ho, h.lt⟩
theorem boxed_new {w : World} {v0 v1 vl : Value} {d : DiskM} (h : DiskR w v0 v1 vl d) (e : Nat) : Boxed (w.alloc (.cells #[v0, v1, vl] e)) w.heap.size w.heap.size v0 v1 vl d :=
  ⟨box_new _ _ _, h.low, h.below ((Below.refl _ _).alloc (Nat.le_refl _) _), Nat.le_refl _⟩
theorem Below.new {w : World} (o : Obj) : Below w.heap.size w (w.alloc o) := (Below.refl _ _).alloc (Nat.le_refl _) _

end Go.Proofs.YtgjlhokakcdpbaaGreatDoor

/-
  Pointers written: PtrText, spec's and impl's.
-/
set_option maxRecDepth 100000
namespace Go.Proofs.YtgjlhokakcdpbaaGreatDoor
open Go.ChangeShapes Go.WideShapes Go.ChangeAt Go.RowKit Go.Proofs.Palim

/-- The bytes of a pointer's text. -/
def ptrL (p : PtrM) : List UInt8 := Lib.itoa p.at_ ++ 46 :: (Lib.itoa p.sum ++ 46 :: Lib.itoa p.birth)
def ptrText (p : PtrM) : ByteArray := if ¬ PtrOkM p then ⟨#[]⟩ else if NullM p then ⟨#[45]⟩ else ⟨(ptrL p).toArray⟩
theorem ret_s {a b : ByteArray} (h : a = b) : Ending.returned (.string a) = Ending.returned (.string b) := by rw [h]
theorem ptr_app (a b c : List UInt8) : ((((⟨a.toArray⟩ : ByteArray) ++ (⟨#[46]⟩ : ByteArray)) ++ (⟨b.toArray⟩ : ByteArray)) ++ (⟨#[46]⟩ : ByteArray)) ++ (⟨c.toArray⟩ : ByteArray) = ⟨(a ++ 46 :: (b ++ 46 :: c)).toArray⟩ := by
  rw [show (⟨#[46]⟩ : ByteArray) = ⟨[46].toArray⟩ from rfl, str_app, str_app, str_app, str_app]
  simp

theorem add_str (a b : ByteArray) (h : a.size + b.size ≤ 9223372036854775807) (w : World) : (Op.stringOp .add a b).run Tryz.prog w = .ok (.string (a ++ b)) w := by
  rw [run_string_add_if, if_neg (by omega)]
theorem decIs (z : Int) (w : World) (h0 : 0 ≤ z) (h1 : z < 9223372036854775807) (t : ByteArray) (ht : (⟨(Lib.itoa z).toArray⟩ : ByteArray) = t) :
    Calls Tryz.prog 44 #[.int .i64 z] w fun e w' => e = .returned (.string t) ∧ Below w.heap.size w w' := ht ▸ l19Dec_int z w h0 h1
theorem itoaIs (z : Int) (w : World) (h0 : 0 ≤ z) (h1 : z < 9223372036854775807) (hp : HasPow w) (t : ByteArray) (ht : (⟨(Lib.itoa z).toArray⟩ : ByteArray) = t) :
    Calls Tryz.prog 107 #[.int .i64 z] w fun e w' => e = .returned (.string t) ∧ Below w.heap.size w w' := by
  subst ht
  refine (Tryz.strconv_Itoa z (by omega) (by omega) w hp).mono ?_
  rintro e w1 ⟨rfl, k, os, hw1⟩
  exact ⟨rfl, by rw [hw1]; exact Lib.below_grow _ _ (Nat.le_refl _) _ _⟩
theorem below_three' {a b c d : World} (h1 : Below a.heap.size a.drew b) (h2 : Below b.heap.size b c) (h3 : Below c.heap.size c d) : Below a.heap.size a d :=
  (((Below.refl _ a).drew.trans h1).trans (h2.mono h1.size)).trans (h3.mono (Nat.le_trans h1.size h2.size))

/-- Three numbers with points between them. -/
def trip (a b c : Int) : List UInt8 := Lib.itoa a ++ 46 :: (Lib.itoa b ++ 46 :: Lib.itoa c)
end Go.Proofs.YtgjlhokakcdpbaaGreatDoor
