/-
  slices.Sort and slices.Compact on strings of the call's own, told by ownsRow.
-/
import Derived.Test.YtoeaeckkmpdpiaaShelf
import Derived.Test.YtoeaeckkmpdpiaaApp
import Derived.Test.YtoeaeckkmpdpiaaTextMath
set_option maxRecDepth 100000
namespace Go.Proofs.Palim
open Go Go.RowKit
open Go.Sort (putRow Holds grow putCells mapBlock onCells)
theorem own_putRow {w : World} {base e g n cap : Nat} {xs : List Value} (h : w.ownsRow base e 1 (.slice (some ⟨g, 0, none⟩) n cap) n xs) (d : Array (List UInt8)) (hd : d.size = n) :
    (putRow encStr w g 0 d).ownsRow base e 1 (.slice (some ⟨g, 0, none⟩) n cap) n (d.toList.map encStr) := by
  refine ⟨by simp [hd], .inr ?_⟩
  rcases h.2 with ⟨hv, _⟩ | ⟨g', cap', cur, hv, hb, hg, h1, h2, h3, h4⟩
  · cases hv
  · injection hv with e1 e2 e3
    injection e1 with e1
    injection e1 with e1
    subst e1 e3
    refine ⟨g, cap, putCells encStr 0 d cur, rfl, hb, ?_, h1, h2, by simp [putCells]; simpa using h3, ?_⟩
    · simp [putRow, mapBlock, Array.getElem?_modify, hg, onCells]
    · apply List.ext_getElem?
      intro k
      rw [Nat.mul_one] at h3 ⊢
      by_cases hk : k < n
      · have hc : k < cur.size := by omega
        rw [List.getElem?_take_of_lt hk]
        simp [putCells, hd, hk, hc]
      · rw [List.getElem?_eq_none (by simp; omega), List.getElem?_eq_none (by simp [hd]; omega)]
theorem putRow_heap (w : World) (g : Nat) (d : Array (List UInt8)) (k : Nat) (h : k ≠ g) : (putRow encStr w g 0 d).heap[k]? = w.heap[k]? := by
  simp [putRow, mapBlock, Array.getElem?_modify, Ne.symm h]
theorem putRow_size (w : World) (g : Nat) (d : Array (List UInt8)) : (putRow encStr w g 0 d).heap.size = w.heap.size := by simp [putRow, mapBlock]
theorem putRow_below {B : Nat} {a w : World} (h : Below B a w) (g : Nat) (hg : B ≤ g) (d : Array (List UInt8)) : Below B a (putRow encStr w g 0 d) :=
  ⟨h.os, h.tape, h.output, by rw [putRow_size]; exact h.size, fun k hk => (putRow_heap w g d k (by omega)).trans (h.block k hk)⟩
theorem ahead_below {B : Nat} {a w : World} (h : Below B a w) (q : Nat) : Below B a (Go.Sort.ahead w q) := ⟨h.os, h.tape, h.output, h.size, h.block⟩
theorem grow_heap_old (w : World) (os : Array Obj) (k : Nat) (h : k < w.heap.size) : (grow w os).heap[k]? = w.heap[k]? := by
  simp only [grow]; rw [Array.getElem?_append_left h]
theorem grow_below {B : Nat} {a w : World} (h : Below B a w) (hB : B ≤ w.heap.size) (os : Array Obj) : Below B a (grow w os) :=
  ⟨h.os, h.tape, h.output, Nat.le_trans h.size (by simp [grow]), fun k hk => (grow_heap_old w os k (by omega)).trans (h.block k hk)⟩
theorem holds_own {w : World} {base e g n cap : Nat} {ss : List ByteArray} (h : w.ownsRow base e 1 (.slice (some ⟨g, 0, none⟩) n cap) n (scs ss)) : Holds encStr w g 0 (ss.map (·.data.toList)).toArray := by
  intro j hj
  have hl : ss.length = n := by have := h.1; rw [scs_length] at this; omega
  have hj' : j < ss.length := by simpa using hj
  obtain ⟨⟨u, hu, hc⟩, hf, _, _⟩ := own_at h j (by omega)
  rw [scs_at ss j hj'] at hu
  obtain rfl := Option.some.inj hu
  refine ⟨?_, by rw [Nat.zero_add]; exact hf⟩
  rw [Nat.zero_add, hc]
  have : (ss.map (·.data.toList)).toArray[j]! = ss[j].data.toList := by simp [hj']
  rw [this]
theorem scs_enc (ls : List (List UInt8)) (ss : List ByteArray) (h : ss.map (·.data.toList) = ls) : ls.map encStr = scs ss := by
  subst h
  simp [scs]
end Go.Proofs.Palim
namespace Go.Proofs.Ytoeaeckkmpdpiaa
open Go.ChangeShapes Go.WideShapes Go.ChangeAt Go.RowKit Go.Proofs.Palim
open Go.Sort (putRow Holds grow putCells mapBlock onCells)

/-- Strings of the call's own sorted in place, doubles struck. -/
theorem sort_own (A : Option Addr) (cap n base : Nat) (ss : List ByteArray) (w : World) (h : w.ownsRow base 9 1 (.slice A n cap) n (scs ss)) (hb : base ≤ w.heap.size) (hn : n ≤ 1000000) :
    Calls Try.prog 35 #[.slice A n cap] w fun e w' => e = .returned (.tuple #[]) ∧ ∃ ts : List ByteArray, ts.map bl = (ss.map bl).mergeSort (fun x y => decide (x ≤ y)) ∧ w'.ownsRow base 9 1 (.slice A n cap) n (scs ts) ∧ Below base w w' := by
  have hl : ss.length = n := by have := h.1; rw [scs_length] at this; omega
  by_cases h0 : n = 0
  · subst h0
    obtain rfl : ss = [] := List.length_eq_zero_iff.1 hl
    refine (Try.slices_Sort_string_none A cap w).mono ?_
    rintro e w' ⟨rfl, rfl⟩
    exact ⟨rfl, [], by simp, h, Below.refl _ _⟩
  · obtain ⟨g, c, hv, hbg, hgl⟩ := h.form (by omega)
    injection hv with e1 e2 e3
    subst e1 e3
    have hlen : (ss.map bl).length = n := by simp [hl]
    have hc := Try.slices_Sort_string g 0 cap (ss.map bl) w (holds_own h) hgl (by rw [hlen]; omega)
    rw [hlen] at hc
    refine hc.mono ?_
    rintro e w' ⟨rfl, q, os, rfl⟩
    have hts : ((((ss.map bl).mergeSort (fun x y => decide (x ≤ y))).map (fun l => (⟨l.toArray⟩ : ByteArray))).map bl) = (ss.map bl).mergeSort (fun x y => decide (x ≤ y)) := by
      rw [List.map_map]
      conv => rhs; rw [← List.map_id ((ss.map bl).mergeSort _)]
      rfl
    refine ⟨rfl, ((ss.map bl).mergeSort (fun x y => decide (x ≤ y))).map (fun l => (⟨l.toArray⟩ : ByteArray)), hts, ?_, ?_⟩
    · have h1 : (Go.Sort.ahead w q).ownsRow base 9 1 (.slice (some ⟨g, 0, none⟩) n cap) n (scs ss) := h
      have h2 := own_putRow h1 ((ss.map bl).mergeSort (fun x y => decide (x ≤ y))).toArray (by simp [hl])
      rw [List.toList_toArray, scs_enc _ _ hts] at h2
      refine own_kept h2 (fun b e => grow_heap_old _ _ _ ?_)
      rw [putRow_size]
      have : g = b := by simpa [Value.ownBlock] using e
      subst this
      exact hgl
    · refine grow_below (putRow_below (ahead_below (Below.refl _ w) q) g hbg _) ?_ os
      rw [putRow_size]; exact hb
theorem compact_own (A : Option Addr) (cap n base : Nat) (ss : List ByteArray) (w : World) (h : w.ownsRow base 9 1 (.slice A n cap) n (scs ss)) (hb : base ≤ w.heap.size) (hn : n ≤ 1000000) (rs : List ByteArray) (hr : rs.map bl = Lib.compact (ss.map bl)) :
    Calls Try.prog 36 #[.slice A n cap] w fun e w' => ∃ v, e = .returned v ∧ w'.ownsRow base 9 1 v rs.length (scs rs) ∧ Below base w w' := by
  have hl : ss.length = n := by have := h.1; rw [scs_length] at this; omega
  have hrl : rs.length = (Lib.compact (ss.map bl)).length := by rw [← hr]; simp
  by_cases h0 : n = 0
  · subst h0
    obtain rfl : ss = [] := List.length_eq_zero_iff.1 hl
    refine (Try.slices_Compact_string_empty A cap w).mono ?_
    rintro e w' ⟨rfl, rfl⟩
    obtain rfl : rs = [] := List.length_eq_zero_iff.1 (by rw [hrl]; rfl)
    exact ⟨_, rfl, h, Below.refl _ _⟩
  · obtain ⟨g, c, hv, hbg, hgl⟩ := h.form (by omega)
    injection hv with e1 e2 e3
    subst e1 e3
    have hcap : n ≤ cap := by obtain ⟨_, A', c', hv', h1, _⟩ := sl_of_own h; injection hv' with a b c; omega
    have hlen : (ss.map bl).length = n := by simp [hl]
    have hle := Lib.compact_length_le (ss.map bl)
    have hc := Try.slices_Compact_string g 0 cap (ss.map bl) w (holds_own h) (by rw [hlen]; omega) (by rw [hlen]; exact hcap)
    rw [hlen] at hc hle
    refine hc.mono ?_
    rintro e w' ⟨rfl, q, rfl⟩
    refine ⟨_, rfl, ?_, putRow_below (ahead_below (Below.refl _ w) q) g hbg _⟩
    have h1 : (Go.Sort.ahead w q).ownsRow base 9 1 (.slice (some ⟨g, 0, none⟩) n cap) n (scs ss) := h
    have h2 := own_putRow h1 (Lib.compact (ss.map bl) ++ List.replicate (n - (Lib.compact (ss.map bl)).length) []).toArray (by simp; omega)
    have h3 := own_take h2 (k := (Lib.compact (ss.map bl)).length) hle
    rw [List.toList_toArray, List.map_append, Nat.mul_one, List.take_left' (by simp), scs_enc _ _ hr] at h3
    rw [hrl]
    exact h3
end Go.Proofs.Ytoeaeckkmpdpiaa
