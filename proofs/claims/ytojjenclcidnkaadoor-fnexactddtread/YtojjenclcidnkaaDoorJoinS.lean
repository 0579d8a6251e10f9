/-
  strings.Join of a list of strings, as plain data.
-/
import Derived.Test.YtojjenclcidnkaaDoorShelf
import Derived.Test.YtojjenclcidnkaaDoorData
import Derived.Test.YtojjenclcidnkaaDoorApp
import Derived.WalkKit
import Derived.ProofKit
import Derived.Lib.Hide
import Derived.Lib.Join
set_option maxRecDepth 100000
namespace Go.Proofs.YtojjenclcidnkaaDoor
open Go.ChangeShapes Go.WideShapes Go.ChangeAt Go.RowKit Go.Proofs.Palim

theorem join_snoc (xs : List (List UInt8)) (x sep : List UInt8) : Lib.join (xs ++ [x]) sep = if xs = [] then x else Lib.join xs sep ++ (sep ++ x) := by
  cases xs with
  | nil => rw [if_pos rfl]; exact Lib.join_one x sep
  | cons a r =>
    rw [if_neg (by simp), List.cons_append, Lib.join_cons, Lib.join_cons]
    simp [Lib.joinTail]
/-- Strings put together, with a string between each two. -/
def joinB (xs : List ByteArray) (sep : ByteArray) : ByteArray := ⟨(Lib.join (xs.map (·.data.toList)) sep.data.toList).toArray⟩
theorem joinIs (v : Value) (xs : List ByteArray) (sep : ByteArray) (w : World) (h : Sl w 1 v xs.length (scs xs)) (hv : Low w.heap.size v) (_hN : xs.length ≤ 4000000)
    (hlen : (joinB xs sep).size ≤ 140737488355328) (t : ByteArray) (ht : joinB xs sep = t) :
    Calls Tryd.prog 24 #[v, .string sep] w fun e w' => e = .returned (.string t) ∧ Below w.heap.size w w' := by
  subst ht
  have hlen' : (Lib.join (xs.map (·.data.toList)) sep.data.toList).length ≤ 140737488355328 := by
    have : (joinB xs sep).size = (Lib.join (xs.map (·.data.toList)) sep.data.toList).length := by
      show (Lib.join (xs.map (·.data.toList)) sep.data.toList).toArray.size = _
      rw [List.size_toArray]
    omega
  by_cases hn : xs.length = 0
  · obtain ⟨_, A, c, rfl, _, _, _⟩ := h
    obtain rfl : xs = [] := List.length_eq_zero_iff.1 hn
    refine (Tryd.strings_Join_none A c sep w).mono ?_
    rintro e w' ⟨rfl, rfl⟩
    exact ⟨rfl, Below.refl _ _⟩
  · obtain ⟨b, off, c, rfl, hnc, hcm, hcell⟩ := h.form (by omega)
    exact Tryd.strings_Join b off c xs sep w (fun j x hx => hcell j _ (by simp [scs, hx])) (hv b rfl) (by omega) hnc hlen'
theorem lens_bd : ∀ (xs : List (List UInt8)) (B : Nat), (∀ x ∈ xs, x.length ≤ B) → Lib.lens xs ≤ xs.length * B
  | [], B, _ => by simp [Lib.lens]
  | x :: r, B, h => by
    have h1 := lens_bd r B (fun y hy => h y (List.mem_cons_of_mem _ hy))
    have h2 := h x (List.mem_cons_self ..)
    simp only [Lib.lens, List.map_cons, List.sum_cons, List.length_cons] at h1 ⊢
    rw [Nat.succ_mul]; omega
theorem join_bd (xs : List (List UInt8)) (sep : List UInt8) (B : Nat) (h : ∀ x ∈ xs, x.length ≤ B) : (Lib.join xs sep).length ≤ xs.length * (B + sep.length) := by
  cases xs with
  | nil => simp [Lib.join_nil]
  | cons a r =>
    rw [Lib.join_cons, List.length_append, Lib.joinTail_length]
    have h1 := lens_bd r B (fun y hy => h y (List.mem_cons_of_mem _ hy))
    have h2 := h a (List.mem_cons_self ..)
    simp only [List.length_cons]
    rw [Nat.succ_mul, Nat.mul_add, Nat.mul_comm sep.length]
    omega
theorem joinB_size (xs : List ByteArray) (sep : ByteArray) : (joinB xs sep).size = (Lib.join (xs.map (·.data.toList)) sep.data.toList).length := by
  show (Lib.join (xs.map (·.data.toList)) sep.data.toList).toArray.size = _
  rw [List.size_toArray]
theorem joinB_bd (xs : List ByteArray) (sep : ByteArray) (B : Nat) (h : ∀ x ∈ xs, x.size ≤ B) : (joinB xs sep).size ≤ xs.length * (B + sep.size) := by
  have := join_bd (xs.map (·.data.toList)) sep.data.toList B (by
    intro x hx
    obtain ⟨y, hy, rfl⟩ := List.mem_map.1 hx
    rw [Array.length_toList]
    exact h y hy)
  rw [joinB_size]
  rw [List.length_map, Array.length_toList] at this
  exact this
theorem joinB_snoc (xs : List ByteArray) (x sep : ByteArray) : joinB (xs ++ [x]) sep = if xs = [] then x else joinB xs sep ++ sep ++ x := by
  unfold joinB
  rw [List.map_append, List.map_cons, List.map_nil, join_snoc]
  by_cases h : xs = []
  · subst h; simp
  · rw [if_neg h, if_neg (by simpa using h)]
    apply ByteArray.ext
    apply Array.ext'
    simp
theorem joinB_one (x sep : ByteArray) : joinB [x] sep = x := by have := joinB_snoc [] x sep; simpa using this
end Go.Proofs.YtojjenclcidnkaaDoor
