/-
  append onto a slice of the call's own, in a list of operations; slices of strings cut and begun.
-/
import Derived.Test.YtojjenclcidnkaaGreatDoorFresh
import Derived.BigQuiet
import Derived.OwnWalk
set_option maxRecDepth 100000
namespace Go.Proofs.Palim
open Go Go.RowKit
theorem wpList_append_freshB {P : Program} (w : World) {ops : Array Oper} {rest : List Oper} {o : Oper} {a : Act} {Q : Exit → Act → World → Prop} (hgd : o.guard = none) (s x : Operand) (t : TypeId)
    (ho : o.op = .call { callee := .builtin .append, args := #[s, x], argTypes := #[t, t] })
    (base : Nat) (e : TypeId) (i : TypeInfo) (z : Value) (size bytes : Nat) (ht : P.underlying t = some (.slice e)) (hi : P.info? e = some i) (hz : i.zero = some z)
    (hsize : i.size = size) (hby : i.bytes = bytes) (hzs : z.cells.size = size) (hsz : 0 < size)
    (v : Value) (n : Nat) (xs : List Value) (hs : a.eval s = v) (hown : w.ownsRow base e size v n xs)
    (u : Value) (m : Nat) (news : List Value) (hx : a.eval x = u) (hsl : Sl w size u m news) (h1 : ∀ u ∈ news, u.oneCell' = true)
    (h63 : n + m ≤ maxLen) (hbytes : (n + m) * bytes ≤ 140737488355328) (hbase : base ≤ w.heap.size)
    (h : ∀ A cap w', w'.ownsRow base e size (.slice A (n + m) cap) (n + m) (xs ++ news) → w.grownBy w' v.ownBlock → ((Value.slice A (n + m) cap).ownBlock = v.ownBlock ∨ (Value.slice A (n + m) cap).ownBlock = some w.heap.size) → wpList P ops Q rest (a.put o.dst (.slice A (n + m) cap)) w') : wpList P ops Q (o :: rest) a w :=
  wpList_plain hgd fun _ hK => wp_append_fresh w s x t ho base e i z size bytes ht hi hz hsize hby hzs hsz v n xs hs hown u m news hx hsl h1 h63 hbytes hbase fun A cap w' h2 h3 h4 => hK _ _ (h A cap w' h2 h3 h4)
/-- The first k elements of what the call owns. -/
theorem own_take {w : World} {base e sz n k : Nat} {A : Option Addr} {cap : Nat} {xs : List Value} (h : w.ownsRow base e sz (.slice A n cap) n xs) (hk : k ≤ n) : w.ownsRow base e sz (.slice A k cap) k (xs.take (k * sz)) := by
  have hkn : k * sz ≤ n * sz := Nat.mul_le_mul_right sz hk
  refine ⟨by rw [List.length_take, h.1]; omega, ?_⟩
  rcases h.2 with ⟨hv, hn⟩ | ⟨g, c, cur, hv, hb, hg, h1, h2, h3, h4⟩
  · left
    injection hv with e1 e2 e3
    subst e1 e3
    obtain rfl : k = 0 := by omega
    exact ⟨rfl, rfl⟩
  · right
    injection hv with e1 e2 e3
    subst e1 e3
    refine ⟨g, cap, cur, rfl, hb, hg, by omega, h2, h3, ?_⟩
    rw [← h4, List.take_take, Nat.min_eq_left hkn]
end Go.Proofs.Palim
namespace Go.Proofs.YtojjenclcidnkaaGreatDoor
open Go.ChangeShapes Go.WideShapes Go.ChangeAt Go.RowKit Go.Proofs.Palim

theorem scs_oneB (ss : List ByteArray) : ∀ u ∈ scs ss, u.oneCell' = true := by
  intro u hu
  obtain ⟨s, _, rfl⟩ := List.mem_map.1 hu
  rfl
theorem sl_drop {w w' : World} {g n c k : Nat} {xs : List Value} (h : Sl w 1 (.slice (some ⟨g, 0, none⟩) n c) n xs) (hk : k < n) (hb : w'.heap[g]? = w.heap[g]?) : Sl w' 1 (.slice (some ⟨g, k, none⟩) (n - k) (c - k)) (n - k) (xs.drop k) := by
  obtain ⟨h1, A, c', hv, h2, h3, h4⟩ := h
  injection hv with e1 e2 e3
  subst e1 e3
  refine ⟨by rw [List.length_drop, h1]; omega, _, _, rfl, by omega, by omega, Or.inr ⟨g, k, rfl, fun j u hu => ?_⟩⟩
  obtain ⟨b, off, hA, hc⟩ := h4.resolve_left (by omega)
  injection hA with hA
  injection hA with ha hb2 hc2
  subst ha hb2
  rw [List.getElem?_drop] at hu
  have := hc _ _ hu
  rw [Nat.zero_add] at this
  exact (World.cell?_of_block hb).trans this
theorem sl_one (w : World) (s : ByteArray) (e : Nat) : Sl (w.alloc (.cells #[.string s] e)) 1 (.slice (some ⟨w.heap.size, 0, none⟩) 1 1) 1 [.string s] := by
  refine ⟨rfl, _, _, rfl, Nat.le_refl _, by unfold maxLen; omega, Or.inr ⟨w.heap.size, 0, rfl, fun j u hu => ?_⟩⟩
  have := (box_new w #[.string s] e).cell j hu
  rwa [Nat.zero_add]
theorem turned_grown {S : Nat → Prop} {a w w' : World} {row : Option Nat} (h : Turned S a w) (hg : w.grownBy w' row) (hr : ∀ b, row = some b → S b ∨ a.heap.size ≤ b) : Turned S a w' :=
  ⟨hg.os.trans h.os, hg.tape.trans h.tape, hg.output.trans h.output, Nat.le_trans h.size hg.size, fun i hi hn => (hg.block i (Nat.lt_of_lt_of_le hi h.size) (fun e => by
    rcases hr i e.symm with h1 | h1
    · exact hn h1
    · omega)).trans (h.block i hi hn)⟩
theorem sl_zero (w : World) (A : Option Addr) (c : Nat) (hc : c ≤ maxLen) : Sl w 1 (.slice A 0 c) 0 [] := ⟨rfl, A, c, rfl, Nat.zero_le _, hc, Or.inl rfl⟩
theorem below_grownB {w w' : World} {v : Value} {B : Nat} (hg : w.grownBy w' v.ownBlock) (hv : ∀ b, v.ownBlock = some b → B ≤ b) (hB : B ≤ w.heap.size) : Below B w w' := (Below.refl _ w).grown hg hB hv

end Go.Proofs.YtojjenclcidnkaaGreatDoor
