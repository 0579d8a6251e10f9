/-
  Texts joined into one: the draws of disks, and what they want.
-/
import Derived.Test.YtgjlhokakcdpbaaGreatDoorBase
import Derived.Deep.AppendLies
import Derived.Maps.AppendAt
import Derived.BigQuiet
import Derived.OwnWalk
import Derived.Test.YtgjlhokakcdpbaaGreatDoorShelf
import Derived.WalkKit
import Derived.ProofKit
import Derived.Lib.Hide
import Derived.Lib.Join
import Derived.Test.YtgjlhokakcdpbaaGreatDoorRows
import Derived.WalkSpells
import Derived.WalkSmall
import Derived.Deep.RegionHeld3

/-
  append of a slice that reads as cells, empty or not, onto a slice of the call's own.
-/
set_option maxRecDepth 100000
namespace Go.Proofs.Palim
open Go Go.RowKit

section
variable {P : Program} (w : World)

theorem run_append_none (t ty e : TypeId) (i : TypeInfo) (ht : P.underlying t = some (.slice e)) (hi : P.info? e = some i) (base size : Nat) (v : Value) (n c : Nat) (xs : List Value) (hown : w.ownsRow base e size v n xs) :
    (Builtin.append_ #[t, t] ty #[v, .slice none 0 c]).run P w = .ok v w := by
  rcases hown.2 with ⟨rfl, rfl⟩ | ⟨g, cap, cur, rfl, _, _, hnc, _⟩
  · simp [Builtin.append_, run_underlying ht, sizeOf, typeInfo, hi, Builtin.lenOf, Builtin.firstCells]
  · simp [Builtin.append_, run_underlying ht, sizeOf, typeInfo, hi, Builtin.lenOf, Builtin.firstCells, hnc, storeCells]

theorem run_append_fresh (t ty : TypeId) (base : Nat) (e : TypeId) (i : TypeInfo) (z : Value) (size bytes : Nat) (ht : P.underlying t = some (.slice e)) (hi : P.info? e = some i) (hz : i.zero = some z)
    (hsize : i.size = size) (hby : i.bytes = bytes) (hzs : z.cells.size = size) (hsz : 0 < size)
    (v : Value) (n : Nat) (xs : List Value) (hown : w.ownsRow base e size v n xs)
    (u : Value) (m : Nat) (news : List Value) (hsl : Sl w size u m news) (h1 : ∀ u ∈ news, u.oneCell' = true)
    (h63 : n + m ≤ maxLen) (hbytes : (n + m) * bytes ≤ 140737488355328) (hbase : base ≤ w.heap.size) :
    ∃ A cap w', (Builtin.append_ #[t, t] ty #[v, u]).run P w = .ok (.slice A (n + m) cap) w' ∧
      w'.ownsRow base e size (.slice A (n + m) cap) (n + m) (xs ++ news) ∧ w.grownBy w' v.ownBlock ∧ ((Value.slice A (n + m) cap).ownBlock = v.ownBlock ∨ (Value.slice A (n + m) cap).ownBlock = some w.heap.size) := by
  obtain ⟨hl, A, c, rfl, h2, h3, h4⟩ := hsl
  cases A with
  | none =>
    have hm : m = 0 := h4.resolve_right (by rintro ⟨_, _, h, _⟩; cases h)
    subst hm
    have hn : news = [] := List.length_eq_zero_iff.1 (by rw [hl]; omega)
    subst hn
    have hr := run_append_none (P := P) w t ty e i ht hi base size v n c xs hown
    obtain ⟨_, A, cap, rfl, _⟩ := sl_of_own hown
    exact ⟨A, cap, w, hr, by rw [List.append_nil]; exact hown, ⟨rfl, rfl, rfl, Nat.le_refl _, fun _ _ _ => rfl⟩, .inl rfl⟩
  | some a =>
    have hnews : ∀ j u, news[j]? = some u → w.cell? (a.add j) = some u := by
      rcases h4 with h0 | ⟨b, off, hA, hc⟩
      · intro j u hu
        have hn : news = [] := List.length_eq_zero_iff.1 (by rw [hl, h0]; omega)
        rw [hn] at hu; cases hu
      · injection hA with hA
        subst hA
        intro j u hu
        have ha : (⟨b, off, none⟩ : Addr).add j = ⟨b, off + j, none⟩ := by unfold Addr.add; simp
        rw [ha]; exact hc j u hu
    obtain ⟨v', w', hr, h5, h6, _, h7⟩ := run_append_own_at (P := P) w base t ty e i z size bytes ht hi hz hsize hby hzs hsz v n xs hown a m c news hl hnews h1 h63 hbytes hbase
    obtain ⟨_, A, cap, rfl, _⟩ := sl_of_own h5
    exact ⟨A, cap, w', hr, h5, h6, h7⟩

theorem wp_append_fresh {o : Oper} {a : Act} {K : Act → World → Prop} {Q : Exit → Act → World → Prop} (s x : Operand) (t : TypeId)
    (ho : o.op = .call { callee := .builtin .append, args := #[s, x], argTypes := #[t, t] })
    (base : Nat) (e : TypeId) (i : TypeInfo) (z : Value) (size bytes : Nat) (ht : P.underlying t = some (.slice e)) (hi : P.info? e = some i) (hz : i.zero = some z)
    (hsize : i.size = size) (hby : i.bytes = bytes) (hzs : z.cells.size = size) (hsz : 0 < size)
    (v : Value) (n : Nat) (xs : List Value) (hs : a.eval s = v) (hown : w.ownsRow base e size v n xs)
    (u : Value) (m : Nat) (news : List Value) (hx : a.eval x = u) (hsl : Sl w size u m news) (h1 : ∀ u ∈ news, u.oneCell' = true)
    (h63 : n + m ≤ maxLen) (hbytes : (n + m) * bytes ≤ 140737488355328) (hbase : base ≤ w.heap.size)
    (h : ∀ A cap w', w'.ownsRow base e size (.slice A (n + m) cap) (n + m) (xs ++ news) → w.grownBy w' v.ownBlock → ((Value.slice A (n + m) cap).ownBlock = v.ownBlock ∨ (Value.slice A (n + m) cap).ownBlock = some w.heap.size) → K (a.put o.dst (.slice A (n + m) cap)) w') : o.wp P a w K Q := by
  obtain ⟨A, cap, w', hr, h2, h3, h4⟩ := run_append_fresh (P := P) w t o.type base e i z size bytes ht hi hz hsize hby hzs hsz v n xs hown u m news hsl h1 h63 hbytes hbase
  unfold Oper.wp execOp
  simp only [ho, resolve, invoke, builtin, Sem.run_bind, Sem.run_pure, Result.andThen_ok, List.map_toArray, List.map_cons, List.map_nil, hs, hx, hr]
  exact h A cap w' h2 h3 h4

theorem step_append_fresh {ops : Array Oper} {o : Oper} {a : Act} {K : Act → World → Prop} {Q : Exit → Act → World → Prop} {E : Prop} (hgd : o.guard = none) (s x : Operand) (t : TypeId)
    (ho : o.op = .call { callee := .builtin .append, args := #[s, x], argTypes := #[t, t] })
    (base : Nat) (e : TypeId) (i : TypeInfo) (z : Value) (size bytes : Nat) (ht : P.underlying t = some (.slice e)) (hi : P.info? e = some i) (hz : i.zero = some z)
    (hsize : i.size = size) (hby : i.bytes = bytes) (hzs : z.cells.size = size) (hsz : 0 < size)
    (v : Value) (n : Nat) (xs : List Value) (hs : a.eval s = v) (hown : w.ownsRow base e size v n xs)
    (u : Value) (m : Nat) (news : List Value) (hx : a.eval x = u) (hsl : Sl w size u m news) (h1 : ∀ u ∈ news, u.oneCell' = true)
    (h63 : n + m ≤ maxLen) (hbytes : (n + m) * bytes ≤ 140737488355328) (hbase : base ≤ w.heap.size)
    (h : ∀ A cap w', w'.ownsRow base e size (.slice A (n + m) cap) (n + m) (xs ++ news) → w.grownBy w' v.ownBlock → ((Value.slice A (n + m) cap).ownBlock = v.ownBlock ∨ (Value.slice A (n + m) cap).ownBlock = some w.heap.size) → K (a.put o.dst (.slice A (n + m) cap)) w') :
    if Region.wanted o (yielded ops a.tmps) = true then Oper.wp P o a w K Q else E := by
  have hw : Region.wanted o (yielded ops a.tmps) = true := by simp [Region.wanted, hgd]
  rw [if_pos hw]
  exact wp_append_fresh w s x t ho base e i z size bytes ht hi hz hsize hby hzs hsz v n xs hs hown u m news hx hsl h1 h63 hbytes hbase h
end
end Go.Proofs.Palim

/-
  append onto a slice of the call's own, in a list of operations; slices of strings cut and begun.
-/
set_option maxRecDepth 100000
namespace Go.Proofs.Palim
open Go Go.RowKit
theorem wpList_append_freshB {P : Program} (w : World) {ops : Array Oper} {rest : List Oper} {o : Oper} {a : Act} {Q : Exit → Act → World → Prop} (hgd : o.guard = none) (s x : Operand) (t : TypeId)
    (ho : o.op = .call { callee := .builtin .append, args := #[s, x], argTypes := #[t, t] })
    (base : Nat) (e : TypeId) (i : TypeInfo) (z : Value) (size bytes : Nat) (ht : P.underlying t = some (.slice e)) (hi : P.info? e = some i) (hz : i.zero = some z)
    (hsize : i.size = size) (hby : i.bytes = bytes) (hzs : z.cells.size = size) (hsz : 0 < size)
    (v : Value) (n : Nat) (xs : List Value) (hs : a.eval s = v) (hown : w.ownsRow base e size v n xs)
    (u : Value) (m : Nat) (news : List Value) (hx : a.eval x = u) (hsl : Sl w size u m news) (h1 : ∀ u ∈ news, u.oneCell' = true)
    (h63 : n + m ≤ maxLen) (hbytes : (n + m) * bytes ≤ 140737488355328) (hbase : base ≤ w.heap.size)
    (h : ∀ A cap w', w'.ownsRow base e size (.slice A (n + m) cap) (n + m) (xs ++ news) → w.grownBy w' v.ownBlock → ((Value.slice A (n + m) cap).ownBlock = v.ownBlock ∨ (Value.slice A (n + m) cap).ownBlock = some w.heap.size) → wpList P ops Q rest (a.put o.dst (.slice A (n + m) cap)) w') : wpList P ops Q (o :: rest) a w :=
  wpList_plain hgd fun _ hK => wp_append_fresh w s x t ho base e i z size bytes ht hi hz hsize hby hzs hsz v n xs hs hown u m news hx hsl h1 h63 hbytes hbase fun A cap w' h2 h3 h4 => hK _ _ (h A cap w' h2 h3 h4)
/-- The first k elements of what the call owns. -/
theorem own_take {w : World} {base e sz n k : Nat} {A : Option Addr} {cap : Nat} {xs : List Value} (h : w.ownsRow base e sz (.slice A n cap) n xs) (hk : k ≤ n) : w.ownsRow base e sz (.slice A k cap) k (xs.take (k * sz)) := by
  have hkn : k * sz ≤ n * sz := Nat.mul_le_mul_right sz hk
  refine ⟨by rw [List.length_take, h.1]; omega, ?_⟩
  rcases h.2 with ⟨hv, hn⟩ | ⟨g, c, cur, hv, hb, hg, h1, h2, h3, h4⟩
  · left
    injection hv with e1 e2 e3
    subst e1 e3
    obtain rfl : k = 0 := by omega
    exact ⟨rfl, rfl⟩
  · right
    injection hv with e1 e2 e3
    subst e1 e3
    refine ⟨g, cap, cur, rfl, hb, hg, by omega, h2, h3, ?_⟩
    rw [← h4, List.take_take, Nat.min_eq_left hkn]
end Go.Proofs.Palim
namespace Go.Proofs.YtgjlhokakcdpbaaGreatDoor
open Go.ChangeShapes Go.WideShapes Go.ChangeAt Go.RowKit Go.Proofs.Palim

theorem scs_oneB (ss : List ByteArray) : ∀ u ∈ scs ss, u.oneCell' = true := by
  intro u hu
  obtain ⟨s, _, rfl⟩ := List.mem_map.1 hu
  rfl
theorem sl_drop {w w' : World} {g n c k : Nat} {xs : List Value} (h : Sl w 1 (.slice (some ⟨g, 0, none⟩) n c) n xs) (hk : k < n) (hb : w'.heap[g]? = w.heap[g]?) : Sl w' 1 (.slice (some ⟨g, k, none⟩) (n - k) (c - k)) (n - k) (xs.drop k) := by
  obtain ⟨h1, A, c', hv, h2, h3, h4⟩ := h
  injection hv with e1 e2 e3
  subst e1 e3
  refine ⟨by rw [List.length_drop, h1]; omega, _, _, rfl, by omega, by omega, Or.inr ⟨g, k, rfl, fun j u hu => ?_⟩⟩
  obtain ⟨b, off, hA, hc⟩ := h4.resolve_left (by omega)
  injection hA with hA
  injection hA with ha hb2 hc2
  subst ha hb2
  rw [List.getElem?_drop] at hu
  have := hc _ _ hu
  rw [Nat.zero_add] at this
  exact (World.cell?_of_block hb).trans this
theorem sl_one (w : World) (s : ByteArray) (e : Nat) : Sl (w.alloc (.cells #[.string s] e)) 1 (.slice (some ⟨w.heap.size, 0, none⟩) 1 1) 1 [.string s] := by
  refine ⟨rfl, _, _, rfl, Nat.le_refl _, by unfold maxLen; omega, Or.inr ⟨w.heap.size, 0, rfl, fun j u hu => ?_⟩⟩
  have := (box_new w #[.string s] e).cell j hu
  rwa [Nat.zero_add]
theorem turned_grown {S : Nat → Prop} {a w w' : World} {row : Option Nat} (h : Turned S a w) (hg : w.grownBy w' row) (hr : ∀ b, row = some b → S b ∨ a.heap.size ≤ b) : Turned S a w' :=
  ⟨hg.os.trans h.os, hg.tape.trans h.tape, hg.output.trans h.output, Nat.le_trans h.size hg.size, fun i hi hn => (hg.block i (Nat.lt_of_lt_of_le hi h.size) (fun e => by
    rcases hr i e.symm with h1 | h1
    · exact hn h1
    · omega)).trans (h.block i hi hn)⟩
theorem sl_zero (w : World) (A : Option Addr) (c : Nat) (hc : c ≤ maxLen) : Sl w 1 (.slice A 0 c) 0 [] := ⟨rfl, A, c, rfl, Nat.zero_le _, hc, Or.inl rfl⟩
theorem below_grownB {w w' : World} {v : Value} {B : Nat} (hg : w.grownBy w' v.ownBlock) (hv : ∀ b, v.ownBlock = some b → B ≤ b) (hB : B ≤ w.heap.size) : Below B w w' := (Below.refl _ w).grown hg hB hv

end Go.Proofs.YtgjlhokakcdpbaaGreatDoor

/-
  strings.Join of a list of strings, as plain data.
-/
set_option maxRecDepth 100000
namespace Go.Proofs.YtgjlhokakcdpbaaGreatDoor
open Go.ChangeShapes Go.WideShapes Go.ChangeAt Go.RowKit Go.Proofs.Palim

theorem join_snoc (xs : List (List UInt8)) (x sep : List UInt8) : Lib.join (xs ++ [x]) sep = if xs = [] then x else Lib.join xs sep ++ (sep ++ x) := by
  cases xs with
  | nil => rw [if_pos rfl]; exact Lib.join_one x sep
  | cons a r =>
    rw [if_neg (by simp), List.cons_append, Lib.join_cons, Lib.join_cons]
    simp [Lib.joinTail]
/-- Strings put together, with a string between each two. -/
def joinB (xs : List ByteArray) (sep : ByteArray) : ByteArray := ⟨(Lib.join (xs.map (·.data.toList)) sep.data.toList).toArray⟩
theorem joinIs (v : Value) (xs : List ByteArray) (sep : ByteArray) (w : World) (h : Sl w 1 v xs.length (scs xs)) (hv : Low w.heap.size v) (_hN : xs.length ≤ 4000000)
    (hlen : (joinB xs sep).size ≤ 140737488355328) (t : ByteArray) (ht : joinB xs sep = t) :
    Calls Tryz.prog 39 #[v, .string sep] w fun e w' => e = .returned (.string t) ∧ Below w.heap.size w w' := by
  subst ht
  have hlen' : (Lib.join (xs.map (·.data.toList)) sep.data.toList).length ≤ 140737488355328 := by
    have : (joinB xs sep).size = (Lib.join (xs.map (·.data.toList)) sep.data.toList).length := by
      show (Lib.join (xs.map (·.data.toList)) sep.data.toList).toArray.size = _
      rw [List.size_toArray]
    omega
  by_cases hn : xs.length = 0
  · obtain ⟨_, A, c, rfl, _, _, _⟩ := h
    obtain rfl : xs = [] := List.length_eq_zero_iff.1 hn
    refine (Tryz.strings_Join_none A c sep w).mono ?_
    rintro e w' ⟨rfl, rfl⟩
    exact ⟨rfl, Below.refl _ _⟩
  · obtain ⟨b, off, c, rfl, hnc, hcm, hcell⟩ := h.form (by omega)
    exact Tryz.strings_Join b off c xs sep w (fun j x hx => hcell j _ (by simp [scs, hx])) (hv b rfl) (by omega) hnc hlen'
theorem lens_bd : ∀ (xs : List (List UInt8)) (B : Nat), (∀ x ∈ xs, x.length ≤ B) → Lib.lens xs ≤ xs.length * B
  | [], B, _ => by simp [Lib.lens]
  | x :: r, B, h => by
    have h1 := lens_bd r B (fun y hy => h y (List.mem_cons_of_mem _ hy))
    have h2 := h x (List.mem_cons_self ..)
    simp only [Lib.lens, List.map_cons, List.sum_cons, List.length_cons] at h1 ⊢
    rw [Nat.succ_mul]; omega
theorem join_bd (xs : List (List UInt8)) (sep : List UInt8) (B : Nat) (h : ∀ x ∈ xs, x.length ≤ B) : (Lib.join xs sep).length ≤ xs.length * (B + sep.length) := by
  cases xs with
  | nil => simp [Lib.join_nil]
  | cons a r =>
    rw [Lib.join_cons, List.length_append, Lib.joinTail_length]
    have h1 := lens_bd r B (fun y hy => h y (List.mem_cons_of_mem _ hy))
    have h2 := h a (List.mem_cons_self ..)
    simp only [List.length_cons]
    rw [Nat.succ_mul, Nat.mul_add, Nat.mul_comm sep.length]
    omega
theorem joinB_size (xs : List ByteArray) (sep : ByteArray) : (joinB xs sep).size = (Lib.join (xs.map (·.data.toList)) sep.data.toList).length := by
  show (Lib.join (xs.map (·.data.toList)) sep.data.toList).toArray.size = _
  rw [List.size_toArray]
theorem joinB_bd (xs : List ByteArray) (sep : ByteArray) (B : Nat) (h : ∀ x ∈ xs, x.size ≤ B) : (joinB xs sep).size ≤ xs.length * (B + sep.size) := by
  have := join_bd (xs.map (·.data.toList)) sep.data.toList B (by
    intro x hx
    obtain ⟨y, hy, rfl⟩ := List.mem_map.1 hx
    rw [Array.length_toList]
    exact h y hy)
  rw [joinB_size]
  rw [List.length_map, Array.length_toList] at this
  exact this
theorem joinB_snoc (xs : List ByteArray) (x sep : ByteArray) : joinB (xs ++ [x]) sep = if xs = [] then x else joinB xs sep ++ sep ++ x := by
  unfold joinB
  rw [List.map_append, List.map_cons, List.map_nil, join_snoc]
  by_cases h : xs = []
  · subst h; simp
  · rw [if_neg h, if_neg (by simpa using h)]
    apply ByteArray.ext
    apply Array.ext'
    simp
theorem joinB_one (x sep : ByteArray) : joinB [x] sep = x := by have := joinB_snoc [] x sep; simpa using this
end Go.Proofs.YtgjlhokakcdpbaaGreatDoor

/-
  Names of sets: what a name is, and both BookName.
-/
set_option maxRecDepth 100000
namespace Go.Proofs.YtgjlhokakcdpbaaGreatDoor
open Go.ChangeShapes Go.WideShapes Go.ChangeAt Go.RowKit Go.Proofs.Palim

/-- The bytes of a name are small letters. -/
def Letters (s : ByteArray) (k : Nat) : Prop := ∀ (i : Nat) (h : i < s.size), i < k → 97 ≤ s[i].toNat ∧ s[i].toNat ≤ 122
def NameOk (s : ByteArray) : Prop := 1 ≤ s.size ∧ s.size ≤ 6 ∧ Letters s s.size
instance (s : ByteArray) (k : Nat) : Decidable (Letters s k) := by unfold Letters; exact inferInstance
instance (s : ByteArray) : Decidable (NameOk s) := by unfold NameOk; exact inferInstance
theorem letters_succ {s : ByteArray} {k : Nat} (h : k < s.size) (hl : Letters s k) (h1 : 97 ≤ s[k].toNat) (h2 : s[k].toNat ≤ 122) : Letters s (k + 1) := by
  intro i hi hk
  by_cases e : i = k
  · subst e; exact ⟨h1, h2⟩
  · exact hl i hi (by omega)
theorem name_bad {s : ByteArray} {k : Nat} (h : k < s.size) (hb : s[k].toNat < 97 ∨ 122 < s[k].toNat) : decide (NameOk s) = false := by
  refine decide_eq_false ?_
  rintro ⟨_, _, hl⟩
  have := hl k h h
  omega
theorem name_len {s : ByteArray} (h : s.size < 1 ∨ 6 < s.size) : decide (NameOk s) = false := by
  refine decide_eq_false ?_
  rintro ⟨_, _, hl⟩
  omega
theorem name_good {s : ByteArray} {k : Nat} (h0 : 1 ≤ s.size) (h6 : s.size ≤ 6) (hk : s.size ≤ k) (hl : Letters s k) : decide (NameOk s) = true :=
  decide_eq_true ⟨h0, h6, fun i hi _ => hl i hi (by omega)⟩

set_option maxHeartbeats 1000000 in
theorem BookName_any (s : ByteArray) (w : World) (hs : s.size ≤ maxLen) :
    Calls Tryz.prog 42 #[.string s] w fun e w' => e = .returned (.bool (decide (NameOk s))) ∧ w' = w := by
  unfold maxLen at hs
  obtain ⟨ok, HOK⟩ : ∃ ok, Hid (decide (NameOk s) = ok) := ⟨_, Lib.hid rfl⟩
  rw [HOK.out]
  go_enter Tryz.func42, Tryz.ntmps42
  go_wp2
  go_loop [3] (fun i => ∃ k : Nat, k ≤ s.size ∧ i = .int .i64 k ∧ Hid (Letters s k)) (fun i => s.size - (intOf i).toNat)
  case atStart => exact ⟨0, Nat.zero_le _, rfl, Lib.hid (fun _ _ h => absurd h (Nat.not_lt_zero _))⟩
  case round =>
    obtain ⟨k, hk, rfl, HL⟩ := hrel
    by_cases hlt : k < s.size
    · by_cases h1 : s[k].toNat < 97
      · have HF := Lib.hid (HOK.out.symm.trans (name_bad hlt (Or.inl h1)))
        have h1z : (s[k].toNat : Int) < 97 := by omega
        go_wp2
        go_ret
        exact ⟨by rw [HF.out]; rfl, rfl⟩
      · by_cases h2 : 122 < s[k].toNat
        · have HF := Lib.hid (HOK.out.symm.trans (name_bad hlt (Or.inr h2)))
          have h1z : ¬ (s[k].toNat : Int) < 97 := by omega
          have h2z : (s[k].toNat : Int) > 122 := by omega
          go_wp2
          go_ret
          exact ⟨by rw [HF.out]; rfl, rfl⟩
        · have HL2 := Lib.hid (letters_succ hlt HL.out (by omega) (by omega))
          have h1z : ¬ (s[k].toNat : Int) < 97 := by omega
          have h2z : ¬ (s[k].toNat : Int) > 122 := by omega
          go_wp2
          go_roundw
          case rel => exact ⟨k + 1, by omega, by go_num, HL2⟩
          case measure => simp [intOf]; omega
    · by_cases h0 : 0 < s.size
      · by_cases h6 : s.size ≤ 6
        · have HF := Lib.hid (HOK.out.symm.trans (name_good h0 h6 (by omega) HL.out))
          have h6z : (s.size : Int) ≤ 6 := by omega
          go_wp2
          go_ret
          exact ⟨by rw [HF.out]; rfl, rfl⟩
        · have HF := Lib.hid (HOK.out.symm.trans (name_len (Or.inr (by omega))))
          have h6z : ¬ (s.size : Int) ≤ 6 := by omega
          go_wp2
          go_ret
          exact ⟨by rw [HF.out]; rfl, rfl⟩
      · have HF := Lib.hid (HOK.out.symm.trans (name_len (Or.inl (by omega))))
        go_wp2
        go_ret
        exact ⟨by rw [HF.out]; rfl, rfl⟩
set_option maxHeartbeats 1000000 in
theorem ImplBookName_any (s : ByteArray) (w : World) (hs : s.size ≤ maxLen) :
    Calls Tryz.prog 204 #[.string s] w fun e w' => e = .returned (.bool (decide (NameOk s))) ∧ w' = w := by
  unfold maxLen at hs
  obtain ⟨ok, HOK⟩ : ∃ ok, Hid (decide (NameOk s) = ok) := ⟨_, Lib.hid rfl⟩
  rw [HOK.out]
  by_cases h0 : s.size < 1
  · have HF := Lib.hid (HOK.out.symm.trans (name_len (Or.inl h0)))
    go_enter Tryz.func204, Tryz.ntmps204
    go_wp2
    go_ret
    exact ⟨by rw [HF.out]; rfl, rfl⟩
  by_cases h6 : 6 < s.size
  · have HF := Lib.hid (HOK.out.symm.trans (name_len (Or.inr h6)))
    go_enter Tryz.func204, Tryz.ntmps204
    go_wp2
    go_ret
    exact ⟨by rw [HF.out]; rfl, rfl⟩
  go_enter Tryz.func204, Tryz.ntmps204
  go_wp2
  go_loop [3, 14] (fun _ i => ∃ k : Nat, k ≤ s.size ∧ i = .int .i64 k ∧ Hid (Letters s k)) (fun _ i => s.size - (intOf i).toNat)
  case atStart => exact ⟨0, Nat.zero_le _, rfl, Lib.hid (fun _ _ h => absurd h (Nat.not_lt_zero _))⟩
  case round =>
    obtain ⟨k, hk, rfl, HL⟩ := hrel
    by_cases hlt : k < s.size
    · by_cases h1 : s[k].toNat < 97
      · have HF := Lib.hid (HOK.out.symm.trans (name_bad hlt (Or.inl h1)))
        have h1z : (s[k].toNat : Int) < 97 := by omega
        go_wp2
        go_ret
        exact ⟨by rw [HF.out]; rfl, rfl⟩
      · by_cases h2 : 122 < s[k].toNat
        · have HF := Lib.hid (HOK.out.symm.trans (name_bad hlt (Or.inr h2)))
          have h1z : ¬ (s[k].toNat : Int) < 97 := by omega
          have h2z : (s[k].toNat : Int) > 122 := by omega
          go_wp2
          go_ret
          exact ⟨by rw [HF.out]; rfl, rfl⟩
        · have HL2 := Lib.hid (letters_succ hlt HL.out (by omega) (by omega))
          have h1z : ¬ (s[k].toNat : Int) < 97 := by omega
          have h2z : ¬ (s[k].toNat : Int) > 122 := by omega
          go_wp2
          go_roundw
          case rel => exact ⟨k + 1, by omega, by go_num, HL2⟩
          case measure => simp [intOf]; omega
    · have HF := Lib.hid (HOK.out.symm.trans (name_good (by omega) (by omega) (by omega) HL.out))
      go_wp2
      go_ret
      exact ⟨by rw [HF.out]; rfl, rfl⟩
end Go.Proofs.YtgjlhokakcdpbaaGreatDoor

/-
  Hexadecimals as plain lists of bytes: digits, pairs, and what a text of digits tells.
-/
set_option maxRecDepth 100000
namespace Go.Proofs.Palim
open Go

def hexDs : List UInt8 := [48, 49, 50, 51, 52, 53, 54, 55, 56, 57, 97, 98, 99, 100, 101, 102]
def hexD (n : Nat) : UInt8 := hexDs.getD n 0
def hexOf (l : List UInt8) : List UInt8 := l.flatMap fun c => [hexD (c.toNat / 16), hexD (c.toNat % 16)]
theorem hexOf_snoc (l : List UInt8) (c : UInt8) : hexOf (l ++ [c]) = hexOf l ++ [hexD (c.toNat / 16), hexD (c.toNat % 16)] := by simp [hexOf]
theorem and15 (c : UInt8) : bits .and .u8 (c.toNat : Int) 15 = ((c.toNat % 16 : Nat) : Int) := by
  have h : ∀ n, n < 256 → bits .and .u8 ((n : Nat) : Int) 15 = ((n % 16 : Nat) : Int) := by decide +kernel
  exact h _ c.toNat_lt
theorem hexStr (n : Nat) (h : n < 16) (h' : n < (ByteArray.mk #[48, 49, 50, 51, 52, 53, 54, 55, 56, 57, 97, 98, 99, 100, 101, 102]).size) : (ByteArray.mk #[48, 49, 50, 51, 52, 53, 54, 55, 56, 57, 97, 98, 99, 100, 101, 102])[n] = hexD n := by
  revert h'
  revert n
  decide +kernel

theorem hexD_inj : ∀ a, a < 16 → ∀ b, b < 16 → hexD a = hexD b → a = b := by decide +kernel

/-- The value of a digit. -/
def nib (c : UInt8) : Option Nat := (List.range 16).find? fun v => hexD v == c
theorem nib_some {c : UInt8} {v : Nat} (h : nib c = some v) : v < 16 ∧ hexD v = c := by
  have h1 := List.find?_some h
  have h2 := List.mem_of_find?_eq_some h
  exact ⟨by simpa using h2, by simpa using h1⟩
theorem nib_none {c : UInt8} (h : nib c = none) : ∀ v, v < 16 → hexD v ≠ c := by
  intro v hv e
  have := List.find?_eq_none.1 h v (by simpa using hv)
  simp [e] at this
theorem nib_hexD {v : Nat} (h : v < 16) : nib (hexD v) = some v := by
  revert v; decide +kernel

/-- The bytes that a text of digits tells, if it tells any. -/
def unhex : List UInt8 → Option (List UInt8)
  | [] => some []
  | [_] => none
  | a :: b :: r => (nib a).bind fun p => (nib b).bind fun q => (unhex r).map fun t => UInt8.ofNat (p * 16 + q) :: t

theorem unhex_even : ∀ {l : List UInt8} {out : List UInt8}, unhex l = some out → l.length = 2 * out.length
  | [], _, h => by simp [unhex] at h; subst h; rfl
  | [_], _, h => by simp [unhex] at h
  | a :: b :: r, out, h => by
    simp only [unhex, Option.bind_eq_some_iff, Option.map_eq_some_iff] at h
    obtain ⟨p, _, q, _, t, ht, rfl⟩ := h
    have := unhex_even ht
    simp; omega
theorem unhex_app : ∀ {x : List UInt8} {out : List UInt8} (y : List UInt8), unhex x = some out → unhex (x ++ y) = (unhex y).map (out ++ ·)
  | [], _, y, h => by simp [unhex] at h; subst h; simp
  | [_], _, _, h => by simp [unhex] at h
  | a :: b :: r, out, y, h => by
    simp only [unhex, Option.bind_eq_some_iff, Option.map_eq_some_iff] at h
    obtain ⟨p, hp, q, hq, t, ht, rfl⟩ := h
    simp only [List.cons_append, unhex, hp, hq, Option.bind_some, unhex_app y ht]
    cases unhex y <;> simp
theorem unhex_pair (a b : UInt8) : unhex [a, b] = (nib a).bind fun p => (nib b).bind fun q => some [UInt8.ofNat (p * 16 + q)] := by
  simp [unhex]
theorem unhex_snoc {x out : List UInt8} {a b : UInt8} {p q : Nat} (h : unhex x = some out) (ha : nib a = some p) (hb : nib b = some q) : unhex (x ++ [a, b]) = some (out ++ [UInt8.ofNat (p * 16 + q)]) := by
  rw [unhex_app _ h, unhex_pair, ha, hb]; rfl
theorem unhex_bad1 {x out r : List UInt8} {a b : UInt8} (h : unhex x = some out) (ha : nib a = none) : unhex (x ++ a :: b :: r) = none := by
  rw [unhex_app _ h, unhex, ha]; rfl
theorem unhex_bad2 {x out r : List UInt8} {a b : UInt8} (h : unhex x = some out) (hb : nib b = none) : unhex (x ++ a :: b :: r) = none := by
  rw [unhex_app _ h, unhex, hb]; cases nib a <;> rfl
theorem unhex_odd : ∀ {l : List UInt8}, l.length % 2 = 1 → unhex l = none := by
  intro l h
  cases e : unhex l with
  | none => rfl
  | some out => have := unhex_even e; omega
theorem unhex_hexOf : ∀ l : List UInt8, unhex (hexOf l) = some l
  | [] => rfl
  | c :: l => by
    have h := unhex_hexOf l
    have hc := c.toNat_lt
    have : hexOf (c :: l) = hexD (c.toNat / 16) :: hexD (c.toNat % 16) :: hexOf l := by simp [hexOf]
    rw [this, unhex, nib_hexD (by omega), nib_hexD (by omega), h]
    have e : c.toNat / 16 * 16 + c.toNat % 16 = c.toNat := by omega
    show some (UInt8.ofNat (c.toNat / 16 * 16 + c.toNat % 16) :: l) = some (c :: l)
    rw [e, UInt8.ofNat_toNat]
theorem split2 (s : ByteArray) (k : Nat) (h : k + 1 < s.size) : s.data.toList = s.data.toList.take k ++ s[k] :: s[k + 1] :: s.data.toList.drop (k + 2) := by
  have h1 : k < s.data.toList.length := by simpa using Nat.lt_of_succ_lt h
  have h2 : k + 1 < s.data.toList.length := by simpa using h
  conv => lhs; rw [← List.take_append_drop k s.data.toList]
  rw [List.drop_eq_getElem_cons h1, List.drop_eq_getElem_cons h2]
  rfl
theorem take_pair (s : ByteArray) (k : Nat) (h : k + 1 < s.size) : s.data.toList.take (k + 2) = s.data.toList.take k ++ [s[k], s[k + 1]] := by
  have h1 : k < s.data.toList.length := by simpa using Nat.lt_of_succ_lt h
  have h2 : k + 1 < s.data.toList.length := by simpa using h
  rw [List.take_succ_eq_append_getElem h2, List.take_succ_eq_append_getElem h1]
  simp
  exact ⟨rfl, rfl⟩
end Go.Proofs.Palim

/-
  The two functions that write bytes in hexadecimals return the same text.
-/
set_option maxRecDepth 100000
namespace Go.Proofs.YtgjlhokakcdpbaaGreatDoor
open Go.ChangeShapes Go.WideShapes Go.ChangeAt Go.RowKit Go.Proofs.Palim

theorem infoU8 : (Tryz.prog.info? 5).map (fun i => (i.zero, i.size, i.bytes)) = some (some (.int .u8 0), 1, 1) := by kernel_rfl

set_option maxHeartbeats 400000 in
theorem implSumHex_any (s : ByteArray) (w : World) (hs : s.size ≤ 1048576) (hg : ∀ i, i < 16 → w.cell? ⟨4, i, none⟩ = some (.int .u8 ((hexD i).toNat : Int))) :
    Calls Tryz.prog 288 #[.string s] w fun e w' => e = .returned (.string ⟨(hexOf s.data.toList).toArray⟩) ∧ Below w.heap.size w w' := by
  obtain ⟨i0, hi, hz0, hz1, hz2⟩ := info_parts infoU8
  go_enter Tryz.func288, Tryz.ntmps288
  go_wp2_with (first | (at_make; refine wpList_make_own _ rfl _ _ 22 rfl w.heap.size 5 i0 (.int .u8 0) 1 Tryz.underlying22 hi hz0 hz1 _ _ _ (2 * s.size) rfl rfl (by omega) (by rw [hz2]; omega) (by unfold maxLen; omega) (Nat.le_refl _) ?_))
  intro w1 hown hgrow
  go_wp2
  go_loopw [3, 4, 11] (fun v _ i wr => ∃ k : Nat, k ≤ s.size ∧ i = .int .i64 k ∧ wr.ownsRow w.heap.size 5 1 v (2 * k) (bcs (hexOf (s.data.toList.take k))) ∧ Below w.heap.size w wr) (fun _ _ i _ => s.size - (intOf i).toNat)
  case atStart => exact ⟨0, Nat.zero_le _, rfl, hown, (Below.refl _ _).grown hgrow (Nat.le_refl _) (fun _ h => by cases h)⟩
  case round =>
    obtain ⟨k, hk, rfl, hown, hb⟩ := hrel
    by_cases hlt : k < s.size
    · have hcb := s[k].toNat_lt
      have hgr : ∀ i, i < 16 → wr.cell? ⟨4, i, none⟩ = some (.int .u8 ((hexD i).toNat : Int)) := fun i hi => (hb.cell (World.block_lt_of_cell? _ _ (hg i hi))).trans (hg i hi)
      obtain ⟨q, HQ⟩ : ∃ q, Hid (q = s[k].toNat / 16) := ⟨_, Lib.hid rfl⟩
      obtain ⟨r, HR⟩ : ∃ r, Hid (r = s[k].toNat % 16) := ⟨_, Lib.hid rfl⟩
      have hq : (s[k].toNat : Int) / 16 = (q : Int) := by rw [HQ.out]; omega
      have hr : bits .and .u8 (s[k].toNat : Int) 15 = (r : Int) := by rw [HR.out]; exact and15 _
      have hq0 : (0 : Int) ≤ (q : Int) := Int.natCast_nonneg _
      have hr0 : (0 : Int) ≤ (r : Int) := Int.natCast_nonneg _
      have hq1 : (q : Int) < 16 := by have := HQ.out; omega
      have hr1 : (r : Int) < 16 := by have := HR.out; omega
      have h1 := hgr q (by omega)
      have h2 := hgr r (by omega)
      clear hgr
      have lg := World.block_lt_of_cell? _ _ (hg 0 (by omega))
      have ag : u3.ownBlock ≠ some 4 := by
        intro h; have := (hown.lt _ h).1; simp at lg; omega
      have lg' : 4 < wr.heap.size := by have := hb.size; simp at lg; omega
      clear lg
      have hk1 : (k : Int) < (s.size : Int) := by omega
      have hn1 : 2 * k + 2 ≤ maxLen := by unfold maxLen; omega
      go_wp2_with fail
      go_region_held3 (fun w' => w'.cell? ⟨4, q, none⟩ = some (.int .u8 ((hexD q).toNat : Int)) ∧ w'.cell? ⟨4, r, none⟩ = some (.int .u8 ((hexD r).toNat : Int)))
        (first
          | go_keep
          | (go_split_ands
             refine ⟨?_, ?_⟩
             · (rw [hgrow1.cell_far _ (by simp <;> omega) (Ne.symm ag)]; assumption)
             · (rw [hgrow1.cell_far _ (by simp <;> omega) (Ne.symm ag)]; assumption)))
        ((refine step_append_lies _ (by rfl) _ _ _ (by rfl) w.heap.size 5 i0 _ 1 1 Tryz.underlying22 hi hz0 hz1 hz2 rfl (by omega) u3 (2 * k) _ (by rfl) ((hown.alloc _).drew)
            ⟨wr.heap.size, 0, none⟩ 2 2 (bcs [hexD q, hexD r]) (by rfl) (by rfl) (World.news_of_block (cs := (bcs [hexD q, hexD r]).toArray) (t := 5) (fr := (0, 0)) (heap_alloc_new wr _)) (bcs_one _)
            (by omega) hn1 (by omega) (by have := hb.size; simp; omega) (wr.heap.size + 1) (by simp) ?_; intro gg cap w2 hown1 hgrow1 hat hglt))
      all_goals
        have R : w2.ownsRow w.heap.size 5 1 (.slice (some ⟨gg, 0, none⟩) (2 * k + 2) cap) (2 * (k + 1)) (bcs (hexOf (s.data.toList.take (k + 1)))) := by
          rw [take_snoc s k hlt, hexOf_snoc, bcs_append, ← HQ.out, ← HR.out]; exact hown1
        have RB : Below w.heap.size w w2 := (hb.alloc hb.size _).drew.grown hgrow1 (by have := hb.size; simp; omega) (fun g h => (hown.lt g h).1)
        clear hown1 hgrow1 hown hb h1 h2 hq hr
        go_wp2
        go_roundw
        case rel => exact ⟨k + 1, by omega, by go_num, R, RB⟩
        case measure => simp [intOf]; omega
    · have hconv := run_convert_own (P := Tryz.prog) 22 9 Tryz.underlying22 Tryz.underlying5 Tryz.underlying9 hown
      go_wp2
      go_ret
      refine ⟨?_, hb⟩
      rw [List.take_of_length_le (by simp; omega)]
      rfl

set_option maxHeartbeats 400000 in
theorem l1Digit_any (n : Nat) (w : World) (h : n < 16) :
    Calls Tryz.prog 118 #[.int .i64 (n : Int)] w fun e w' => e = .returned (.int .u8 ((hexD n).toNat : Int)) ∧ w = w' := by
  go_enter Tryz.func118, Tryz.ntmps118
  go_wp2
  go_ret
  refine ⟨ret_int ?_, rfl⟩
  rw [hexStr n h]

set_option maxHeartbeats 400000 in
theorem specSumHex_any (s : ByteArray) (w : World) (hs : s.size ≤ 1048576) :
    Calls Tryz.prog 43 #[.string s] w fun e w' => e = .returned (.string ⟨(hexOf s.data.toList).toArray⟩) ∧ Below w.heap.size w w' := by
  obtain ⟨i0, hi, hz0, hz1, hz2⟩ := info_parts infoU8
  go_enter Tryz.func43, Tryz.ntmps43
  go_wp2
  go_loopw [3, 4] (fun v i wr => ∃ k : Nat, k ≤ s.size ∧ i = .int .i64 k ∧ wr.ownsRow w.heap.size 5 1 v (2 * k) (bcs (hexOf (s.data.toList.take k))) ∧ Below w.heap.size w wr) (fun _ i _ => s.size - (intOf i).toNat)
  case atStart => exact ⟨0, Nat.zero_le _, rfl, World.ownsRow_made w #[] 0 (Nat.le_refl _) (by unfold maxLen; omega) rfl, (Below.refl _ _).alloc (Nat.le_refl _) _⟩
  case round =>
    obtain ⟨k, hk, rfl, hown, hb⟩ := hrel
    by_cases hlt : k < s.size
    · have hcb := s[k].toNat_lt
      obtain ⟨q, HQ⟩ : ∃ q, Hid (q = s[k].toNat / 16) := ⟨_, Lib.hid rfl⟩
      obtain ⟨r, HR⟩ : ∃ r, Hid (r = s[k].toNat % 16) := ⟨_, Lib.hid rfl⟩
      have hq : (s[k].toNat : Int).tdiv 16 = (q : Int) := by rw [HQ.out]; rfl
      have hr : (s[k].toNat : Int).tmod 16 = (r : Int) := by rw [HR.out]; rfl
      have hq1 : q < 16 := by have := HQ.out; omega
      have hr1 : r < 16 := by have := HR.out; omega
      have hw1 : IntKind.i64.wrap (s[k].toNat : Int) = (s[k].toNat : Int) := IntWalk.i64_in _ (by omega)
      have hw2 : IntKind.i64.wrap (q : Int) = (q : Int) := IntWalk.i64_in _ (by omega)
      have hw3 : IntKind.i64.wrap (r : Int) = (r : Int) := IntWalk.i64_in _ (by omega)
      have hk1 : (k : Int) < (s.size : Int) := by omega
      have hn1 : 2 * k + 2 ≤ maxLen := by unfold maxLen; omega
      go_wp2_with fail
      go_region_held3 (fun _ => True)
        (exact trivial)
        (first
          | (go_at_call 118; ((with_reducible refine (l1Digit_any _ _ (by assumption)).mono ?_); rintro e w' ⟨rfl, rfl⟩))
          | (refine step_append_lies _ (by rfl) _ _ _ (by rfl) w.heap.size 5 i0 _ 1 1 Tryz.underlying22 hi hz0 hz1 hz2 rfl (by omega) u3 (2 * k) _ (by rfl) ((hown.alloc _).drew)
              ⟨wr.heap.size, 0, none⟩ 2 2 (bcs [hexD q, hexD r]) (by rfl) (by rfl) (World.news_of_block (cs := (bcs [hexD q, hexD r]).toArray) (t := 5) (fr := (0, 0)) (heap_alloc_new wr _)) (bcs_one _)
              (by omega) hn1 (by omega) (by have := hb.size; simp; omega) (wr.heap.size + 1) (by simp) ?_; intro gg cap w2 hown1 hgrow1 hat hglt))
      all_goals
        have R : w2.ownsRow w.heap.size 5 1 (.slice (some ⟨gg, 0, none⟩) (2 * k + 2) cap) (2 * (k + 1)) (bcs (hexOf (s.data.toList.take (k + 1)))) := by
          rw [take_snoc s k hlt, hexOf_snoc, bcs_append, ← HQ.out, ← HR.out]; exact hown1
        have RB : Below w.heap.size w w2 := (hb.alloc hb.size _).drew.grown hgrow1 (by have := hb.size; simp; omega) (fun g h => (hown.lt g h).1)
        clear hown1 hgrow1 hown hb hq hr hw1 hw2 hw3
        go_wp2
        go_roundw
        case rel => exact ⟨k + 1, by omega, by go_num, R, RB⟩
        case measure => simp [intOf]; omega
    · have hconv := run_convert_own (P := Tryz.prog) 22 9 Tryz.underlying22 Tryz.underlying5 Tryz.underlying9 hown
      go_wp2
      go_ret
      refine ⟨?_, hb⟩
      rw [List.take_of_length_le (by simp; omega)]
      rfl
end Go.Proofs.YtgjlhokakcdpbaaGreatDoor
