/-
  Texts joined into one: the draws of disks, and what they want.
-/
import Derived.Test.YtfcfgdpelbljnaaGreatDoorBase
import Derived.Deep.AppendLies
import Derived.Maps.AppendAt
import Derived.BigQuiet
import Derived.OwnWalk
import Derived.Test.YtfcfgdpelbljnaaGreatDoorShelf
import Derived.WalkKit
import Derived.ProofKit
import Derived.Lib.Hide
import Derived.Lib.Join
import Derived.Deep.RegionHeld3

/-
  append of a slice that reads as cells, empty or not, onto a slice of the call's own.
-/
set_option maxRecDepth 100000
namespace Go.Proofs.Palim
open Go Go.RowKit

section
variable {P : Program} (w : World)

theorem run_append_none (t ty e : TypeId) (i : TypeInfo) (ht : P.underlying t = some (.slice e)) (hi : P.info? e = some i) (base size : Nat) (v : Value) (n c : Nat) (xs : List Value) (hown : w.ownsRow base e size v n xs) :
    (Builtin.append_ #[t, t] ty #[v, .slice none 0 c]).run P w = .ok v w := by
  rcases hown.2 with ⟨rfl, rfl⟩ | ⟨g, cap, cur, rfl, _, _, hnc, _⟩
  · simp [Builtin.append_, run_underlying ht, sizeOf, typeInfo, hi, Builtin.lenOf, Builtin.firstCells]
  · simp [Builtin.append_, run_underlying ht, sizeOf, typeInfo, hi, Builtin.lenOf, Builtin.firstCells, hnc, storeCells]

theorem run_append_fresh (t ty : TypeId) (base : Nat) (e : TypeId) (i : TypeInfo) (z : Value) (size bytes : Nat) (ht : P.underlying t = some (.slice e)) (hi : P.info? e = some i) (hz : i.zero = some z)
    (hsize : i.size = size) (hby : i.bytes = bytes) (hzs : z.cells.size = size) (hsz : 0 < size)
    (v : Value) (n : Nat) (xs : List Value) (hown : w.ownsRow base e size v n xs)
    (u : Value) (m : Nat) (news : List Value) (hsl : Sl w size u m news) (h1 : ∀ u ∈ news, u.oneCell' = true)
    (h63 : n + m ≤ maxLen) (hbytes : (n + m) * bytes ≤ 140737488355328) (hbase : base ≤ w.heap.size) :
    ∃ A cap w', (Builtin.append_ #[t, t] ty #[v, u]).run P w = .ok (.slice A (n + m) cap) w' ∧
      w'.ownsRow base e size (.slice A (n + m) cap) (n + m) (xs ++ news) ∧ w.grownBy w' v.ownBlock ∧ ((Value.slice A (n + m) cap).ownBlock = v.ownBlock ∨ (Value.slice A (n + m) cap).ownBlock = some w.heap.size) := by
  obtain ⟨hl, A, c, rfl, h2, h3, h4⟩ := hsl
  cases A with
  | none =>
    have hm : m = 0 := h4.resolve_right (by rintro ⟨_, _, h, _⟩; cases h)
    subst hm
    have hn : news = [] := List.length_eq_zero_iff.1 (by rw [hl]; omega)
    subst hn
    have hr := run_append_none (P := P) w t ty e i ht hi base size v n c xs hown
    obtain ⟨_, A, cap, rfl, _⟩ := sl_of_own hown
    exact ⟨A, cap, w, hr, by rw [List.append_nil]; exact hown, ⟨rfl, rfl, rfl, Nat.le_refl _, fun _ _ _ => rfl⟩, .inl rfl⟩
  | some a =>
    have hnews : ∀ j u, news[j]? = some u → w.cell? (a.add j) = some u := by
      rcases h4 with h0 | ⟨b, off, hA, hc⟩
      · intro j u hu
        have hn : news = [] := List.length_eq_zero_iff.1 (by rw [hl, h0]; omega)
        rw [hn] at hu; cases hu
      · injection hA with hA
        subst hA
        intro j u hu
        have ha : (⟨b, off, none⟩ : Addr).add j = ⟨b, off + j, none⟩ := by unfold Addr.add; simp
        rw [ha]; exact hc j u hu
    obtain ⟨v', w', hr, h5, h6, _, h7⟩ := run_append_own_at (P := P) w base t ty e i z size bytes ht hi hz hsize hby hzs hsz v n xs hown a m c news hl hnews h1 h63 hbytes hbase
    obtain ⟨_, A, cap, rfl, _⟩ := sl_of_own h5
    exact ⟨A, cap, w', hr, h5, h6, h7⟩

theorem wp_append_fresh {o : Oper} {a : Act} {K : Act → World → Prop} {Q : Exit → Act → World → Prop} (s x : Operand) (t : TypeId)
    (ho : o.op = .call { callee := .builtin .append, args := #[s, x], argTypes := #[t, t] })
    (base : Nat) (e : TypeId) (i : TypeInfo) (z : Value) (size bytes : Nat) (ht : P.underlying t = some (.slice e)) (hi : P.info? e = some i) (hz : i.zero = some z)
    (hsize : i.size = size) (hby : i.bytes = bytes) (hzs : z.cells.size = size) (hsz : 0 < size)
    (v : Value) (n : Nat) (xs : List Value) (hs : a.eval s = v) (hown : w.ownsRow base e size v n xs)
    (u : Value) (m : Nat) (news : List Value) (hx : a.eval x = u) (hsl : Sl w size u m news) (h1 : ∀ u ∈ news, u.oneCell' = true)
    (h63 : n + m ≤ maxLen) (hbytes : (n + m) * bytes ≤ 140737488355328) (hbase : base ≤ w.heap.size)
    (h : ∀ A cap w', w'.ownsRow base e size (.slice A (n + m) cap) (n + m) (xs ++ news) → w.grownBy w' v.ownBlock → ((Value.slice A (n + m) cap).ownBlock = v.ownBlock ∨ (Value.slice A (n + m) cap).ownBlock = some w.heap.size) → K (a.put o.dst (.slice A (n + m) cap)) w') : o.wp P a w K Q := by
  obtain ⟨A, cap, w', hr, h2, h3, h4⟩ := run_append_fresh (P := P) w t o.type base e i z size bytes ht hi hz hsize hby hzs hsz v n xs hown u m news hsl h1 h63 hbytes hbase
  unfold Oper.wp execOp
  simp only [ho, resolve, invoke, builtin, Sem.run_bind, Sem.run_pure, Result.andThen_ok, List.map_toArray, List.map_cons, List.map_nil, hs, hx, hr]
  exact h A cap w' h2 h3 h4

theorem step_append_fresh {ops : Array Oper} {o : Oper} {a : Act} {K : Act → World → Prop} {Q : Exit → Act → World → Prop} {E : Prop} (hgd : o.guard = none) (s x : Operand) (t : TypeId)
    (ho : o.op = .call { callee := .builtin .append, args := #[s, x], argTypes := #[t, t] })
    (base : Nat) (e : TypeId) (i : TypeInfo) (z : Value) (size bytes : Nat) (ht : P.underlying t = some (.slice e)) (hi : P.info? e = some i) (hz : i.zero = some z)
    (hsize : i.size = size) (hby : i.bytes = bytes) (hzs : z.cells.size = size) (hsz : 0 < size)
    (v : Value) (n : Nat) (xs : List Value) (hs : a.eval s = v) (hown : w.ownsRow base e size v n xs)
    (u : Value) (m : Nat) (news : List Value) (hx : a.eval x = u) (hsl : Sl w size u m news) (h1 : ∀ u ∈ news, u.oneCell' = true)
    (h63 : n + m ≤ maxLen) (hbytes : (n + m) * bytes ≤ 140737488355328) (hbase : base ≤ w.heap.size)
    (h : ∀ A cap w', w'.ownsRow base e size (.slice A (n + m) cap) (n + m) (xs ++ news) → w.grownBy w' v.ownBlock → ((Value.slice A (n + m) cap).ownBlock = v.ownBlock ∨ (Value.slice A (n + m) cap).ownBlock = some w.heap.size) → K (a.put o.dst (.slice A (n + m) cap)) w') :
    if Region.wanted o (yielded ops a.tmps) = true then Oper.wp P o a w K Q else E := by
  have hw : Region.wanted o (yielded ops a.tmps) = true := by simp [Region.wanted, hgd]
  rw [if_pos hw]
  exact wp_append_fresh w s x t ho base e i z size bytes ht hi hz hsize hby hzs hsz v n xs hs hown u m news hx hsl h1 h63 hbytes hbase h
end
end Go.Proofs.Palim

/-
  append onto a slice of the call's own, in a list of operations; slices of strings cut and begun.
-/
set_option maxRecDepth 100000
namespace Go.Proofs.Palim
open Go Go.RowKit
theorem wpList_append_freshB {P : Program} (w : World) {ops : Array Oper} {rest : List Oper} {o : Oper} {a : Act} {Q : Exit → Act → World → Prop} (hgd : o.guard = none) (s x : Operand) (t : TypeId)
    (ho : o.op = .call { callee := .builtin .append, args := #[s, x], argTypes := #[t, t] })
    (base : Nat) (e : TypeId) (i : TypeInfo) (z : Value) (size bytes : Nat) (ht : P.underlying t = some (.slice e)) (hi : P.info? e = some i) (hz : i.zero = some z)
    (hsize : i.size = size) (hby : i.bytes = bytes) (hzs : z.cells.size = size) (hsz : 0 < size)
    (v : Value) (n : Nat) (xs : List Value) (hs : a.eval s = v) (hown : w.ownsRow base e size v n xs)
    (u : Value) (m : Nat) (news : List Value) (hx : a.eval x = u) (hsl : Sl w size u m news) (h1 : ∀ u ∈ news, u.oneCell' = true)
    (h63 : n + m ≤ maxLen) (hbytes : (n + m) * bytes ≤ 140737488355328) (hbase : base ≤ w.heap.size)
    (h : ∀ A cap w', w'.ownsRow base e size (.slice A (n + m) cap) (n + m) (xs ++ news) → w.grownBy w' v.ownBlock → ((Value.slice A (n + m) cap).ownBlock = v.ownBlock ∨ (Value.slice A (n + m) cap).ownBlock = some w.heap.size) → wpList P ops Q rest (a.put o.dst (.slice A (n + m) cap)) w') : wpList P ops Q (o :: rest) a w :=
  wpList_plain hgd fun _ hK => wp_append_fresh w s x t ho base e i z size bytes ht hi hz hsize hby hzs hsz v n xs hs hown u m news hx hsl h1 h63 hbytes hbase fun A cap w' h2 h3 h4 => hK _ _ (h A cap w' h2 h3 h4)
/-- The first k elements of what the call owns. -/
theorem own_take {w : World} {base e sz n k : Nat} {A : Option Addr} {cap : Nat} {xs : List Value} (h : w.ownsRow base e sz (.slice A n cap) n xs) (hk : k ≤ n) : w.ownsRow base e sz (.slice A k cap) k (xs.take (k * sz)) := by
  have hkn : k * sz ≤ n * sz := Nat.mul_le_mul_right sz hk
  refine ⟨by rw [List.length_take, h.1]; omega, ?_⟩
  rcases h.2 with ⟨hv, hn⟩ | ⟨g, c, cur, hv, hb, hg, h1, h2, h3, h4⟩
  · left
    injection hv with e1 e2 e3
    subst e1 e3
    obtain rfl : k = 0 := by omega
    exact ⟨rfl, rfl⟩
  · right
    injection hv with e1 e2 e3
    subst e1 e3
    refine ⟨g, cap, cur, rfl, hb, hg, by omega, h2, h3, ?_⟩
    rw [← h4, List.take_take, Nat.min_eq_left hkn]
end Go.Proofs.Palim
namespace Go.Proofs.YtfcfgdpelbljnaaGreatDoor
open Go.ChangeShapes Go.WideShapes Go.ChangeAt Go.RowKit Go.Proofs.Palim

theorem scs_oneB (ss : List ByteArray) : ∀ u ∈ scs ss, u.oneCell' = true := by
  intro u hu
  obtain ⟨s, _, rfl⟩ := List.mem_map.1 hu
  rfl
theorem sl_drop {w w' : World} {g n c k : Nat} {xs : List Value} (h : Sl w 1 (.slice (some ⟨g, 0, none⟩) n c) n xs) (hk : k < n) (hb : w'.heap[g]? = w.heap[g]?) : Sl w' 1 (.slice (some ⟨g, k, none⟩) (n - k) (c - k)) (n - k) (xs.drop k) := by
  obtain ⟨h1, A, c', hv, h2, h3, h4⟩ := h
  injection hv with e1 e2 e3
  subst e1 e3
  refine ⟨by rw [List.length_drop, h1]; omega, _, _, rfl, by omega, by omega, Or.inr ⟨g, k, rfl, fun j u hu => ?_⟩⟩
  obtain ⟨b, off, hA, hc⟩ := h4.resolve_left (by omega)
  injection hA with hA
  injection hA with ha hb2 hc2
  subst ha hb2
  rw [List.getElem?_drop] at hu
  have := hc _ _ hu
  rw [Nat.zero_add] at this
  exact (World.cell?_of_block hb).trans this
theorem sl_one (w : World) (s : ByteArray) (e : Nat) : Sl (w.alloc (.cells #[.string s] e)) 1 (.slice (some ⟨w.heap.size, 0, none⟩) 1 1) 1 [.string s] := by
  refine ⟨rfl, _, _, rfl, Nat.le_refl _, by unfold maxLen; omega, Or.inr ⟨w.heap.size, 0, rfl, fun j u hu => ?_⟩⟩
  have := (box_new w #[.string s] e).cell j hu
  rwa [Nat.zero_add]
theorem turned_grown {S : Nat → Prop} {a w w' : World} {row : Option Nat} (h : Turned S a w) (hg : w.grownBy w' row) (hr : ∀ b, row = some b → S b ∨ a.heap.size ≤ b) : Turned S a w' :=
  ⟨hg.os.trans h.os, hg.tape.trans h.tape, hg.output.trans h.output, Nat.le_trans h.size hg.size, fun i hi hn => (hg.block i (Nat.lt_of_lt_of_le hi h.size) (fun e => by
    rcases hr i e.symm with h1 | h1
    · exact hn h1
    · omega)).trans (h.block i hi hn)⟩
theorem sl_zero (w : World) (A : Option Addr) (c : Nat) (hc : c ≤ maxLen) : Sl w 1 (.slice A 0 c) 0 [] := ⟨rfl, A, c, rfl, Nat.zero_le _, hc, Or.inl rfl⟩
theorem below_grownB {w w' : World} {v : Value} {B : Nat} (hg : w.grownBy w' v.ownBlock) (hv : ∀ b, v.ownBlock = some b → B ≤ b) (hB : B ≤ w.heap.size) : Below B w w' := (Below.refl _ w).grown hg hB hv

end Go.Proofs.YtfcfgdpelbljnaaGreatDoor

/-
  strings.Join of a list of strings, as plain data.
-/
set_option maxRecDepth 100000
namespace Go.Proofs.YtfcfgdpelbljnaaGreatDoor
open Go.ChangeShapes Go.WideShapes Go.ChangeAt Go.RowKit Go.Proofs.Palim

theorem join_snoc (xs : List (List UInt8)) (x sep : List UInt8) : Lib.join (xs ++ [x]) sep = if xs = [] then x else Lib.join xs sep ++ (sep ++ x) := by
  cases xs with
  | nil => rw [if_pos rfl]; exact Lib.join_one x sep
  | cons a r =>
    rw [if_neg (by simp), List.cons_append, Lib.join_cons, Lib.join_cons]
    simp [Lib.joinTail]
/-- Strings put together, with a string between each two. -/
def joinB (xs : List ByteArray) (sep : ByteArray) : ByteArray := ⟨(Lib.join (xs.map (·.data.toList)) sep.data.toList).toArray⟩
theorem joinIs (v : Value) (xs : List ByteArray) (sep : ByteArray) (w : World) (h : Sl w 1 v xs.length (scs xs)) (hv : Low w.heap.size v) (_hN : xs.length ≤ 4000000)
    (hlen : (joinB xs sep).size ≤ 140737488355328) (t : ByteArray) (ht : joinB xs sep = t) :
    Calls Tryz.prog 47 #[v, .string sep] w fun e w' => e = .returned (.string t) ∧ Below w.heap.size w w' := by
  subst ht
  have hlen' : (Lib.join (xs.map (·.data.toList)) sep.data.toList).length ≤ 140737488355328 := by
    have : (joinB xs sep).size = (Lib.join (xs.map (·.data.toList)) sep.data.toList).length := by
      show (Lib.join (xs.map (·.data.toList)) sep.data.toList).toArray.size = _
      rw [List.size_toArray]
    omega
  by_cases hn : xs.length = 0
  · obtain ⟨_, A, c, rfl, _, _, _⟩ := h
    obtain rfl : xs = [] := List.length_eq_zero_iff.1 hn
    refine (Tryz.strings_Join_none A c sep w).mono ?_
    rintro e w' ⟨rfl, rfl⟩
    exact ⟨rfl, Below.refl _ _⟩
  · obtain ⟨b, off, c, rfl, hnc, hcm, hcell⟩ := h.form (by omega)
    exact Tryz.strings_Join b off c xs sep w (fun j x hx => hcell j _ (by simp [scs, hx])) (hv b rfl) (by omega) hnc hlen'
theorem lens_bd : ∀ (xs : List (List UInt8)) (B : Nat), (∀ x ∈ xs, x.length ≤ B) → Lib.lens xs ≤ xs.length * B
  | [], B, _ => by simp [Lib.lens]
  | x :: r, B, h => by
    have h1 := lens_bd r B (fun y hy => h y (List.mem_cons_of_mem _ hy))
    have h2 := h x (List.mem_cons_self ..)
    simp only [Lib.lens, List.map_cons, List.sum_cons, List.length_cons] at h1 ⊢
    rw [Nat.succ_mul]; omega
theorem join_bd (xs : List (List UInt8)) (sep : List UInt8) (B : Nat) (h : ∀ x ∈ xs, x.length ≤ B) : (Lib.join xs sep).length ≤ xs.length * (B + sep.length) := by
  cases xs with
  | nil => simp [Lib.join_nil]
  | cons a r =>
    rw [Lib.join_cons, List.length_append, Lib.joinTail_length]
    have h1 := lens_bd r B (fun y hy => h y (List.mem_cons_of_mem _ hy))
    have h2 := h a (List.mem_cons_self ..)
    simp only [List.length_cons]
    rw [Nat.succ_mul, Nat.mul_add, Nat.mul_comm sep.length]
    omega
theorem joinB_size (xs : List ByteArray) (sep : ByteArray) : (joinB xs sep).size = (Lib.join (xs.map (·.data.toList)) sep.data.toList).length := by
  show (Lib.join (xs.map (·.data.toList)) sep.data.toList).toArray.size = _
  rw [List.size_toArray]
theorem joinB_bd (xs : List ByteArray) (sep : ByteArray) (B : Nat) (h : ∀ x ∈ xs, x.size ≤ B) : (joinB xs sep).size ≤ xs.length * (B + sep.size) := by
  have := join_bd (xs.map (·.data.toList)) sep.data.toList B (by
    intro x hx
    obtain ⟨y, hy, rfl⟩ := List.mem_map.1 hx
    rw [Array.length_toList]
    exact h y hy)
  rw [joinB_size]
  rw [List.length_map, Array.length_toList] at this
  exact this
theorem joinB_snoc (xs : List ByteArray) (x sep : ByteArray) : joinB (xs ++ [x]) sep = if xs = [] then x else joinB xs sep ++ sep ++ x := by
  unfold joinB
  rw [List.map_append, List.map_cons, List.map_nil, join_snoc]
  by_cases h : xs = []
  · subst h; simp
  · rw [if_neg h, if_neg (by simpa using h)]
    apply ByteArray.ext
    apply Array.ext'
    simp
theorem joinB_one (x sep : ByteArray) : joinB [x] sep = x := by have := joinB_snoc [] x sep; simpa using this
end Go.Proofs.YtfcfgdpelbljnaaGreatDoor

/-
  coreWriter: lines of words.
-/
set_option maxRecDepth 100000
namespace Go.Proofs.YtfcfgdpelbljnaaGreatDoor
open Go.ChangeShapes Go.WideShapes Go.ChangeAt Go.RowKit Go.Proofs.Palim

/-- A writer in block x: the lines it holds. -/
structure Wr (w : World) (x base : Nat) (v : Value) (ls : List ByteArray) : Prop where
  box : Box w x [v]
  own : w.ownsRow base 9 1 v ls.length (scs ls)
  ne : ∀ b, v.ownBlock = some b → b ≠ x
  le : base ≤ x
theorem Wr.below {w w' : World} {x base : Nat} {v : Value} {ls : List ByteArray} (h : Wr w x base v ls) (hb : Below w.heap.size w w') : Wr w' x base v ls :=
  ⟨h.box.below hb h.box.lt, own_kept h.own (fun b e => hb.block b (h.own.lt b e).2), h.ne, h.le⟩
theorem wr_new (w : World) (e : Nat) : Wr (w.alloc (.cells #[.slice none 0 0] e)) w.heap.size w.heap.size (.slice none 0 0) [] :=
  ⟨box_new _ _ _, ⟨rfl, .inl ⟨rfl, rfl⟩⟩, (fun b e => by cases e), Nat.le_refl _⟩
theorem Wr.more {w wr w2 : World} {x base n c cap : Nat} {A A2 : Option Addr} {ls : List ByteArray} {t : ByteArray} (h : Wr wr x base (.slice A n c) ls) (hb : Below base w wr)
    (hw : w2.ownsRow base 9 1 (.slice A2 (ls.length + 1) cap) (ls.length + 1) (scs ls ++ [.string t])) (hg : wr.grownBy w2 (Value.slice A n c).ownBlock) (hat : (Value.slice A2 (ls.length + 1) cap).ownBlock = (Value.slice A n c).ownBlock ∨ (Value.slice A2 (ls.length + 1) cap).ownBlock = some wr.heap.size) :
    Box w2 x [.slice A n c] ∧ (∃ v', Wr (w2.setCell ⟨x, 0, none⟩ (.slice A2 (ls.length + 1) cap)) x base v' (ls ++ [t])) ∧ Below base w (w2.setCell ⟨x, 0, none⟩ (.slice A2 (ls.length + 1) cap)) := by
  have hbx : Box w2 x [.slice A n c] := h.box.kept (hg.block x h.box.lt (fun e => h.ne x e.symm rfl))
  have hne : ∀ b, (Value.slice A2 (ls.length + 1) cap).ownBlock = some b → b ≠ x := by
    intro b e
    rcases hat with h' | h'
    · exact h.ne b (h' ▸ e)
    · rw [h'] at e
      have e' := Option.some.inj e
      have := h.box.lt
      omega
  refine ⟨hbx, ⟨.slice A2 (ls.length + 1) cap, hbx.set 0 _, ?_, hne, h.le⟩, ?_⟩
  · rw [show (ls ++ [t]).length = ls.length + 1 by simp, scs_snoc]
    exact own_kept hw (fun b e => Below.heap_setCell _ _ _ _ (fun e' => hne b e e'))
  · exact (hb.grown hg (Nat.le_trans h.le (Nat.le_of_lt h.box.lt)) (fun b e => (h.own.lt b e).1)).setCell (p := ⟨x, 0, none⟩) h.le _

/-- What line leaves. -/
def LinePost (w : World) (x base : Nat) (ls : List ByteArray) (e : Ending) (w' : World) : Prop :=
  e = .returned (.tuple #[]) ∧ (∃ v', Wr w' x base v' ls) ∧ Below base w w'

/-- The blocks that line turns. -/
def LineS (x : Nat) (v : Value) (b : Nat) : Prop := b = x ∨ v.ownBlock = some b
def LineT (w : World) (x base : Nat) (v : Value) (ls : List ByteArray) (e : Ending) (w' : World) : Prop :=
  e = .returned (.tuple #[]) ∧ (∃ v', Wr w' x base v' ls) ∧ Below base w w' ∧ Turned (LineS x v) w w'

set_option maxHeartbeats 2000000 in
theorem lineT_any (x base : Nat) (v : Value) (ls : List ByteArray) (wv : Value) (ws : List ByteArray) (t : ByteArray) (w : World) (h : Wr w x base v ls) (hw : Sl w 1 wv ws.length (scs ws)) (hwv : Low w.heap.size wv)
    (hn : ls.length ≤ 4000000) (hN : ws.length ≤ 4000000) (hlen : t.size ≤ 140737488355328) (ht : joinB ws ⟨#[32]⟩ = t) :
    Calls Tryz.prog 18 #[.pointer (some ⟨x, 0, none⟩), wv] w (LineT w x base v (ls ++ [t])) := by
  obtain ⟨i0, hi, hz0, hz1, hz2⟩ := info_parts infoStr
  have HW := Lib.hid h
  have HL := Lib.hid hw
  have HV := Lib.hid hwv
  have HT := Lib.hid ht
  have hx := h.box.lt
  have hle := h.le
  obtain ⟨_, A0, c0, rfl, _, _, _⟩ := hw
  obtain ⟨_, A, c, rfl, hnc, hcm, _⟩ := sl_of_own h.own
  unfold maxLen at hcm
  clear h hwv ht
  go_enter Tryz.func18, Tryz.ntmps18
  go_wp2_with fail
  have hd0 := (Below.refl w.heap.size w).drew
  have hW0 := Wr.below HW.out hd0
  have hL0 := HL.out.below hd0 HV.out
  have hV0 : Low w.drew.heap.size (.slice A0 ws.length c0) := HV.out
  have hB0 : Below base w w.drew := (Below.refl _ w).drew
  have hT0 := turned_of_below (S := LineS x (.slice A ls.length c)) hd0
  clear hd0
  refine wp_region_held_drew (S := fun _ => True) (by kernel_rfl) trivial (fun hHeld => ?_)
  generalize w.drew = wd at hW0 hL0 hV0 hB0 hT0 ⊢
  refine wpAnyH_take (i := 0) (v := ?_) rfl (by kernel_rfl) (by kernel_rfl) (by kernel_rfl) (fun _ _ _ h => h) (Or.inl ⟨by rfl, ?_⟩) (by assumption) ?_
  rotate_left
  · (intro w' hSw; go_simp; try with_reducible rfl)
  try simp only [Act.put]
  refine wpAnyH_take (i := 1) (v := ?_) rfl (by kernel_rfl) (by kernel_rfl) (by kernel_rfl) (fun _ _ _ h => h) (Or.inl ⟨by rfl, ?_⟩) (by assumption) ?_
  rotate_left
  · (intro w' hSw; go_simp; try with_reducible rfl)
  try simp only [Act.put]
  refine wpAnyH_take (i := 2) (v := ?_) rfl (by kernel_rfl) (by kernel_rfl) (by kernel_rfl) (fun _ _ _ h => h) (Or.inl ⟨by rfl, ?_⟩) (by assumption) ?_
  rotate_left
  · (intro w' hSw; go_simp; try with_reducible rfl)
  try simp only [Act.put]
  refine wpAnyH_take (i := 3) (v := ?_) rfl (by kernel_rfl) (by kernel_rfl) (by kernel_rfl) (fun _ _ _ h => h) (Or.inl ⟨by rfl, ?_⟩) (by assumption) ?_
  rotate_left
  · (intro w' hSw; go_simp; try with_reducible rfl)
  try simp only [Act.put]
  refine wpAnyH_take (i := 5) (v := ?_) rfl (by kernel_rfl) (by kernel_rfl) (by kernel_rfl) (fun _ _ _ h => h) (Or.inl ⟨by rfl, ?_⟩) (by assumption) ?_
  rotate_left
  · (intro w' hSw; go_simp; try with_reducible rfl)
  try simp only [Act.put]
  refine wpAnyH_ready (rs := [4, 6]) (by kernel_rfl) (by simp) ?_
  refine AllReadyH.cons rfl (fun K hK => ?_) (AllReadyH.cons rfl (fun K hK => ?_) (AllReadyH.nil))
  · have hway : True := trivial
    have x0 := Box.cell (Wr.box hW0) 0 rfl
    go_simp
    refine hK.out _ _ trivial (fun hHeld1 => ?_)
    clear hK K
    try simp only [Act.put]
    refine wpAnyH_ready (rs := [6]) (by kernel_rfl) (by simp) ?_
    refine AllReadyH.cons rfl (fun K hK => ?_) (AllReadyH.nil)
    go_simp
    go_at_call 47
    refine (joinIs _ ws ⟨#[32]⟩ _ hL0 hV0 hN (by rw [HT.out]; exact hlen) t HT.out).mono ?_
    rintro e w1 ⟨rfl, hb1⟩
    have hW1 := Wr.below hW0 hb1
    have hB1 : Below base w w1 := hB0.trans (hb1.mono (Nat.le_trans (Wr.le hW0) (Nat.le_of_lt (Box.lt (Wr.box hW0)))))
    have hT1 := hT0.trans (turned_of_below hb1)
    clear hb1
    go_wp2_with fail
    refine hK.out _ _ trivial (fun hHeld2 => ?_)
    clear hK K
    try simp only [Act.put]
    refine wpAnyH_ready (rs := [7]) (by kernel_rfl) (by simp) ?_
    refine AllReadyH.cons rfl (fun K hK => ?_) (AllReadyH.nil)
    have hW2 := Wr.below hW1 (Below.new (w := w1) (.cells #[.string t] 9))
    have hS2 := sl_one w1 t 9
    have hB2 : Below base w (w1.alloc (.cells #[.string t] 9)) := hB1.alloc (Nat.le_trans (Wr.le hW1) (Nat.le_of_lt (Box.lt (Wr.box hW1)))) _
    have hT2 := hT1.trans (turned_of_below (Below.new (w := w1) (.cells #[.string t] 9)))
    go_simp
    refine hK.out _ _ trivial (fun hHeld3 => ?_)
    clear hK K
    try simp only [Act.put]
    try (change wpAnyH _ _ _ _ _ _ _ _ (w1.alloc (.cells #[.string t] 9)))
    generalize w1.alloc (.cells #[.string t] 9) = wa at hW2 hS2 hB2 hT2 ⊢
    refine wpAnyH_ready (rs := [8]) (by kernel_rfl) (by simp) ?_
    refine AllReadyH.cons rfl (fun K hK => ?_) (AllReadyH.nil)
    have hO := Wr.own hW2
    have hwl := Box.lt (Wr.box hW2)
    refine step_append_fresh _ (by rfl) _ _ _ (by rfl) base 9 i0 _ 1 16 Tryz.underlying28 hi hz0 hz1 hz2 rfl (by omega) (.slice A ls.length c) ls.length _ (by rfl) hO (.slice (some ⟨w1.heap.size, 0, none⟩) 1 1) 1 [.string t] (by rfl) hS2 (by simp [Value.oneCell']) (by unfold maxLen; omega) (by omega) (by omega) ?_
    intro A2 cap2 w2 hown2 hg2 hloc2
    refine hK.out _ _ trivial (fun hHeld4 => ?_)
    clear hK K
    try simp only [Act.put]
    refine wpAnyH_take (i := 9) (v := ?_) rfl (by kernel_rfl) (by kernel_rfl) (by kernel_rfl) (fun _ _ _ h => h) (Or.inl ⟨by rfl, ?_⟩) (by assumption) ?_
    rotate_left
    · (intro w' hSw; go_simp; try with_reducible rfl)
    try simp only [Act.put]
    refine wpAnyH_take (i := 10) (v := ?_) rfl (by kernel_rfl) (by kernel_rfl) (by kernel_rfl) (fun _ _ _ h => h) (Or.inl ⟨by rfl, ?_⟩) (by assumption) ?_
    rotate_left
    · (intro w' hSw; go_simp; try with_reducible rfl)
    try simp only [Act.put]
    refine wpAnyH_ready (rs := [11]) (by kernel_rfl) (by simp) ?_
    refine AllReadyH.cons rfl (fun K hK => ?_) (AllReadyH.nil)
    obtain ⟨hbx, hFin⟩ := Wr.more hW2 hB2 hown2 hg2 hloc2
    have p0 := Box.cell hbx 0 rfl
    have q0 := Box.open_ hbx 0
    go_simp
    refine hK.out _ _ trivial (fun hHeld5 => ?_)
    clear hK K
    try simp only [Act.put]
    refine wpAnyH_done (by kernel_rfl) ?_ _
    go_simp
    go_wp2
    exact ⟨rfl, .tuple #[], by simp [results, Tryz.results18, go_sem], rfl, hFin.1, hFin.2, turned_setCell (turned_grown hT2 hg2 (fun b e => Or.inl (Or.inr e))) (p := ⟨x, 0, none⟩) (Or.inl rfl) _⟩
  · have hway : True := trivial
    go_simp
    go_at_call 47
    refine (joinIs _ ws ⟨#[32]⟩ _ hL0 hV0 hN (by rw [HT.out]; exact hlen) t HT.out).mono ?_
    rintro e w1 ⟨rfl, hb1⟩
    have hW1 := Wr.below hW0 hb1
    have hB1 : Below base w w1 := hB0.trans (hb1.mono (Nat.le_trans (Wr.le hW0) (Nat.le_of_lt (Box.lt (Wr.box hW0)))))
    have hT1 := hT0.trans (turned_of_below hb1)
    clear hb1
    go_wp2_with fail
    refine hK.out _ _ trivial (fun hHeld1 => ?_)
    clear hK K
    try simp only [Act.put]
    refine wpAnyH_ready (rs := [4, 7]) (by kernel_rfl) (by simp) ?_
    refine AllReadyH.cons rfl (fun K hK => ?_) (AllReadyH.cons rfl (fun K hK => ?_) (AllReadyH.nil))
    · have hway : True := trivial
      have x0 := Box.cell (Wr.box hW1) 0 rfl
      go_simp
      refine hK.out _ _ trivial (fun hHeld2 => ?_)
      clear hK K
      try simp only [Act.put]
      refine wpAnyH_ready (rs := [7]) (by kernel_rfl) (by simp) ?_
      refine AllReadyH.cons rfl (fun K hK => ?_) (AllReadyH.nil)
      have hW2 := Wr.below hW1 (Below.new (w := w1) (.cells #[.string t] 9))
      have hS2 := sl_one w1 t 9
      have hB2 : Below base w (w1.alloc (.cells #[.string t] 9)) := hB1.alloc (Nat.le_trans (Wr.le hW1) (Nat.le_of_lt (Box.lt (Wr.box hW1)))) _
      have hT2 := hT1.trans (turned_of_below (Below.new (w := w1) (.cells #[.string t] 9)))
      go_simp
      refine hK.out _ _ trivial (fun hHeld3 => ?_)
      clear hK K
      try simp only [Act.put]
      try (change wpAnyH _ _ _ _ _ _ _ _ (w1.alloc (.cells #[.string t] 9)))
      generalize w1.alloc (.cells #[.string t] 9) = wa at hW2 hS2 hB2 hT2 ⊢
      refine wpAnyH_ready (rs := [8]) (by kernel_rfl) (by simp) ?_
      refine AllReadyH.cons rfl (fun K hK => ?_) (AllReadyH.nil)
      have hO := Wr.own hW2
      have hwl := Box.lt (Wr.box hW2)
      refine step_append_fresh _ (by rfl) _ _ _ (by rfl) base 9 i0 _ 1 16 Tryz.underlying28 hi hz0 hz1 hz2 rfl (by omega) (.slice A ls.length c) ls.length _ (by rfl) hO (.slice (some ⟨w1.heap.size, 0, none⟩) 1 1) 1 [.string t] (by rfl) hS2 (by simp [Value.oneCell']) (by unfold maxLen; omega) (by omega) (by omega) ?_
      intro A2 cap2 w2 hown2 hg2 hloc2
      refine hK.out _ _ trivial (fun hHeld4 => ?_)
      clear hK K
      try simp only [Act.put]
      refine wpAnyH_take (i := 9) (v := ?_) rfl (by kernel_rfl) (by kernel_rfl) (by kernel_rfl) (fun _ _ _ h => h) (Or.inl ⟨by rfl, ?_⟩) (by assumption) ?_
      rotate_left
      · (intro w' hSw; go_simp; try with_reducible rfl)
      try simp only [Act.put]
      refine wpAnyH_take (i := 10) (v := ?_) rfl (by kernel_rfl) (by kernel_rfl) (by kernel_rfl) (fun _ _ _ h => h) (Or.inl ⟨by rfl, ?_⟩) (by assumption) ?_
      rotate_left
      · (intro w' hSw; go_simp; try with_reducible rfl)
      try simp only [Act.put]
      refine wpAnyH_ready (rs := [11]) (by kernel_rfl) (by simp) ?_
      refine AllReadyH.cons rfl (fun K hK => ?_) (AllReadyH.nil)
      obtain ⟨hbx, hFin⟩ := Wr.more hW2 hB2 hown2 hg2 hloc2
      have p0 := Box.cell hbx 0 rfl
      have q0 := Box.open_ hbx 0
      go_simp
      refine hK.out _ _ trivial (fun hHeld5 => ?_)
      clear hK K
      try simp only [Act.put]
      refine wpAnyH_done (by kernel_rfl) ?_ _
      go_simp
      go_wp2
      exact ⟨rfl, .tuple #[], by simp [results, Tryz.results18, go_sem], rfl, hFin.1, hFin.2, turned_setCell (turned_grown hT2 hg2 (fun b e => Or.inl (Or.inr e))) (p := ⟨x, 0, none⟩) (Or.inl rfl) _⟩
    · have hway : True := trivial
      have hW2 := Wr.below hW1 (Below.new (w := w1) (.cells #[.string t] 9))
      have hS2 := sl_one w1 t 9
      have hB2 : Below base w (w1.alloc (.cells #[.string t] 9)) := hB1.alloc (Nat.le_trans (Wr.le hW1) (Nat.le_of_lt (Box.lt (Wr.box hW1)))) _
      have hT2 := hT1.trans (turned_of_below (Below.new (w := w1) (.cells #[.string t] 9)))
      go_simp
      refine hK.out _ _ trivial (fun hHeld2 => ?_)
      clear hK K
      try simp only [Act.put]
      try (change wpAnyH _ _ _ _ _ _ _ _ (w1.alloc (.cells #[.string t] 9)))
      generalize w1.alloc (.cells #[.string t] 9) = wa at hW2 hS2 hB2 hT2 ⊢
      refine wpAnyH_ready (rs := [4]) (by kernel_rfl) (by simp) ?_
      refine AllReadyH.cons rfl (fun K hK => ?_) (AllReadyH.nil)
      have x0 := Box.cell (Wr.box hW2) 0 rfl
      go_simp
      refine hK.out _ _ trivial (fun hHeld3 => ?_)
      clear hK K
      try simp only [Act.put]
      refine wpAnyH_ready (rs := [8]) (by kernel_rfl) (by simp) ?_
      refine AllReadyH.cons rfl (fun K hK => ?_) (AllReadyH.nil)
      have hO := Wr.own hW2
      have hwl := Box.lt (Wr.box hW2)
      refine step_append_fresh _ (by rfl) _ _ _ (by rfl) base 9 i0 _ 1 16 Tryz.underlying28 hi hz0 hz1 hz2 rfl (by omega) (.slice A ls.length c) ls.length _ (by rfl) hO (.slice (some ⟨w1.heap.size, 0, none⟩) 1 1) 1 [.string t] (by rfl) hS2 (by simp [Value.oneCell']) (by unfold maxLen; omega) (by omega) (by omega) ?_
      intro A2 cap2 w2 hown2 hg2 hloc2
      refine hK.out _ _ trivial (fun hHeld4 => ?_)
      clear hK K
      try simp only [Act.put]
      refine wpAnyH_take (i := 9) (v := ?_) rfl (by kernel_rfl) (by kernel_rfl) (by kernel_rfl) (fun _ _ _ h => h) (Or.inl ⟨by rfl, ?_⟩) (by assumption) ?_
      rotate_left
      · (intro w' hSw; go_simp; try with_reducible rfl)
      try simp only [Act.put]
      refine wpAnyH_take (i := 10) (v := ?_) rfl (by kernel_rfl) (by kernel_rfl) (by kernel_rfl) (fun _ _ _ h => h) (Or.inl ⟨by rfl, ?_⟩) (by assumption) ?_
      rotate_left
      · (intro w' hSw; go_simp; try with_reducible rfl)
      try simp only [Act.put]
      refine wpAnyH_ready (rs := [11]) (by kernel_rfl) (by simp) ?_
      refine AllReadyH.cons rfl (fun K hK => ?_) (AllReadyH.nil)
      obtain ⟨hbx, hFin⟩ := Wr.more hW2 hB2 hown2 hg2 hloc2
      have p0 := Box.cell hbx 0 rfl
      have q0 := Box.open_ hbx 0
      go_simp
      refine hK.out _ _ trivial (fun hHeld5 => ?_)
      clear hK K
      try simp only [Act.put]
      refine wpAnyH_done (by kernel_rfl) ?_ _
      go_simp
      go_wp2
      exact ⟨rfl, .tuple #[], by simp [results, Tryz.results18, go_sem], rfl, hFin.1, hFin.2, turned_setCell (turned_grown hT2 hg2 (fun b e => Or.inl (Or.inr e))) (p := ⟨x, 0, none⟩) (Or.inl rfl) _⟩

theorem line_any (x base : Nat) (v : Value) (ls : List ByteArray) (wv : Value) (ws : List ByteArray) (t : ByteArray) (w : World) (h : Wr w x base v ls) (hw : Sl w 1 wv ws.length (scs ws)) (hwv : Low w.heap.size wv)
    (hn : ls.length ≤ 4000000) (hN : ws.length ≤ 4000000) (hlen : t.size ≤ 140737488355328) (ht : joinB ws ⟨#[32]⟩ = t) :
    Calls Tryz.prog 18 #[.pointer (some ⟨x, 0, none⟩), wv] w (LinePost w x base (ls ++ [t])) :=
  (lineT_any x base v ls wv ws t w h hw hwv hn hN hlen ht).mono fun _ _ ⟨h1, h2, h3, _⟩ => ⟨h1, h2, h3⟩

set_option maxHeartbeats 400000 in
theorem text_wr (x base : Nat) (v : Value) (ls : List ByteArray) (t : ByteArray) (w : World) (h : Wr w x base v ls)
    (hn : ls.length ≤ 4000000) (hlen : t.size ≤ 140737488355328) (ht : joinB ls ⟨#[10]⟩ = t) :
    Calls Tryz.prog 21 #[.pointer (some ⟨x, 0, none⟩)] w fun e w' => e = .returned (.string t) ∧ Below w.heap.size w w' := by
  have g0 := h.box.cell 0 rfl
  have HS := Lib.hid (sl_of_own h.own)
  have HV := Lib.hid (low_of_own h.own)
  have HT := Lib.hid ht
  obtain ⟨_, A, c, rfl, hnc, hcm, _⟩ := sl_of_own h.own
  clear h ht
  go_enter Tryz.func21, Tryz.ntmps21
  go_wp2_with fail
  refine (joinIs _ ls ⟨#[10]⟩ _ HS.out HV.out (by omega) (by rw [HT.out]; exact hlen) t HT.out).mono ?_
  rintro e w1 ⟨rfl, hb1⟩
  go_wp2
  go_ret
  exact ⟨rfl, hb1⟩
end Go.Proofs.YtfcfgdpelbljnaaGreatDoor

/-
  The ring's word: corePoints, CoreUber of both sides.
-/
set_option maxRecDepth 100000
namespace Go.Proofs.YtfcfgdpelbljnaaGreatDoor
open Go.ChangeShapes Go.WideShapes Go.ChangeAt Go.RowKit Go.Proofs.Palim

theorem neNull (p : PtrM) (r : Bool) (hr : decide (¬ NullM p) = r) (w : World) : (binOp .neq 24 (.agg #[.int .i64 p.at_, .int .i64 p.sum, .int .i64 p.birth]) (.agg #[.int .i64 0, .int .i64 0, .int .i64 0])).run Tryz.prog w = .ok (.bool r) w := by
  subst hr
  obtain ⟨a, s, b⟩ := p
  rw [run_neq_struct]
  by_cases h3 : a = 0
  · by_cases h4 : s = 0
    · by_cases h5 : b = 0
      · have : decide (¬ NullM ⟨a, s, b⟩) = false := by simp [NullM, h3, h4, h5]
        rw [this]
        go_simp
      · have : decide (¬ NullM ⟨a, s, b⟩) = true := by simp [NullM, h5]
        rw [this]
        go_simp
    · have : decide (¬ NullM ⟨a, s, b⟩) = true := by simp [NullM, h4]
      rw [this]
      go_simp
  · have : decide (¬ NullM ⟨a, s, b⟩) = true := by simp [NullM, h3]
    rw [this]
    go_simp
theorem good_iff (p : PtrM) : GoodM p ↔ PtrOkM p ∧ ¬ NullM p := by
  unfold PtrOkM GoodM NullM
  constructor
  · intro h; exact ⟨Or.inr h, by omega⟩
  · rintro ⟨h1, h2⟩; exact h1.resolve_left h2

set_option maxHeartbeats 400000 in
theorem corePoints_any (p : PtrM) (w : World) :
    Calls Tryz.prog 16 #[pv p] w fun e w' => e = .returned (.bool (decide (GoodM p))) ∧ Below w.heap.size w w' := by
  obtain ⟨r, HR⟩ : ∃ r, Hid (decide (GoodM p) = r) := ⟨_, Lib.hid rfl⟩
  rw [HR.out]
  obtain ⟨hX, hsz, hB⟩ := box1 w #[.int .i64 p.at_, .int .i64 p.sum, .int .i64 p.birth] 24
  have XP := Lib.hid hX
  have B0 := Lib.hid hB
  clear hX hB
  by_cases hok : PtrOkM p
  · have HR2 := Lib.hid (show decide (¬ NullM p) = r from by rw [← HR.out]; exact decide_eq_decide.2 ⟨fun h => (good_iff p).2 ⟨hok, h⟩, fun h => ((good_iff p).1 h).2⟩)
    have hq := neNull p r HR2.out
    go_enter Tryz.func16, Tryz.ntmps16
    go_wp2_with fail
    refine (implPtrOk_is p _ true (decide_eq_true hok)).mono ?_
    rintro e w1 ⟨rfl, hb⟩
    have XP1 := Lib.hid (XP.out.below hb XP.out.lt)
    have B1 := Lib.hid (B0.out.trans (hb.mono B0.out.size))
    clear hb XP B0 hsz hok
    obtain ⟨x0, x1, x2⟩ := XP1.out.three
    go_wp2
    go_ret
    exact ⟨rfl, B1.out⟩
  · have HF := Lib.hid (show false = r from by rw [← HR.out]; exact (decide_eq_false (fun h => hok ((good_iff p).1 h).1)).symm)
    go_enter Tryz.func16, Tryz.ntmps16
    go_wp2_with fail
    refine (implPtrOk_is p _ false (decide_eq_false hok)).mono ?_
    rintro e w1 ⟨rfl, hb⟩
    have B1 := Lib.hid (B0.out.trans (hb.mono B0.out.size))
    go_wp2
    go_ret
    exact ⟨ret_b HF.out, B1.out⟩
theorem corePoints_is (p : PtrM) (w : World) (r : Bool) (hr : decide (GoodM p) = r) :
    Calls Tryz.prog 16 #[pv p] w fun e w' => e = .returned (.bool r) ∧ Below w.heap.size w w' := hr ▸ corePoints_any p w
end Go.Proofs.YtfcfgdpelbljnaaGreatDoor

/-
  CoreUber of both sides.
-/
set_option maxRecDepth 100000
namespace Go.Proofs.YtfcfgdpelbljnaaGreatDoor
open Go.ChangeShapes Go.WideShapes Go.ChangeAt Go.RowKit Go.Proofs.Palim

/-- The ring's word before it is sealed. -/
def uberB (z : Int) (p : PtrM) : ByteArray := (⟨(Lib.itoa z).toArray⟩ : ByteArray) ++ (⟨#[32]⟩ : ByteArray) ++ ptrText p ++ (⟨#[32]⟩ : ByteArray) ++ (⟨(Lib.itoa z).toArray⟩ : ByteArray)
def UberOk (z : Int) (p : PtrM) : Prop := 1 ≤ z ∧ z ≤ 1000000 ∧ GoodM p
instance (z : Int) (p : PtrM) : Decidable (UberOk z p) := by unfold UberOk; infer_instance
def uberText (z : Int) (p : PtrM) : ByteArray := if UberOk z p then sealB (uberB z p) else ⟨#[]⟩
theorem ptrText_bd (p : PtrM) (h : GoodM p) : (ptrText p).size ≤ 65 := by
  obtain ⟨h1, h2, h3, h4, h5, h6⟩ := id h
  have l1 := Lib.itoa_length_le p.at_ (by omega) (by omega)
  have l2 := Lib.itoa_length_le p.sum (by omega) (by omega)
  have l3 := Lib.itoa_length_le p.birth (by omega) (by omega)
  have hk : ¬ NullM p := fun c => by have := c.1; omega
  unfold ptrText
  rw [if_neg (not_not_intro (show PtrOkM p from Or.inr h)), if_neg hk]
  show (ptrL p).toArray.size ≤ 65
  simp [ptrL]
  omega
theorem specPtrText_is (p : PtrM) (t : ByteArray) (w : World) (ht : ptrText p = t) :
    Calls Tryz.prog 25 #[pv p] w fun e w' => e = .returned (.string t) ∧ Below w.heap.size w w' := ht ▸ specPtrText_any p w
theorem implPtrText_is (p : PtrM) (t : ByteArray) (w : World) (hp : HasPow w) (ht : ptrText p = t) :
    Calls Tryz.prog 19 #[pv p] w fun e w' => e = .returned (.string t) ∧ Below w.heap.size w w' := ht ▸ implPtrText_any p w hp
theorem specSeal_is (s t : ByteArray) (w : World) (hs : s.size ≤ 1000000) (ht : sealB s = t) :
    Calls Tryz.prog 23 #[.string s] w fun e w' => e = .returned (.string t) ∧ Below w.heap.size w w' := by
  subst ht; exact specSeal_any s w (by unfold maxLen; omega)
theorem implSeal_is (s t : ByteArray) (w : World) (hs : s.size ≤ 1000000) (hp : HasPow w) (ht : sealB s = t) :
    Calls Tryz.prog 20 #[.string s] w fun e w' => e = .returned (.string t) ∧ Below w.heap.size w w' := by
  subst ht; exact implSeal_any s w (by unfold maxLen; omega) hp

set_option maxHeartbeats 2000000 in
theorem specUber_any (z : Int) (p : PtrM) (w : World) :
    Calls Tryz.prog 6 #[.int .i64 z, pv p] w fun e w' => e = .returned (.string (uberText z p)) ∧ Below w.heap.size w w' := by
  have hnot : ∀ (x : Bool) (w : World), (Op.unary .not (.bool x)).run Tryz.prog w = .ok (.bool (!x)) w := fun _ _ => rfl
  obtain ⟨R, HR⟩ : ∃ R, Hid (uberText z p = R) := ⟨_, Lib.hid rfl⟩
  rw [HR.out]
  obtain ⟨hX, hsz, hB⟩ := box1 w #[.int .i64 p.at_, .int .i64 p.sum, .int .i64 p.birth] 24
  have XP := Lib.hid hX
  have B0 := Lib.hid hB
  clear hX hB
  have HN := Lib.hid (show ¬ UberOk z p → (⟨#[]⟩ : ByteArray) = R from fun h => by rw [← HR.out]; unfold uberText; rw [if_neg h])
  by_cases h1 : z < 1
  · have HF := Lib.hid (HN.out (fun c => by have := c.1; omega))
    go_enter Tryz.func6, Tryz.ntmps6
    go_wp2
    go_ret
    exact ⟨ret_s HF.out, B0.out⟩
  by_cases h2 : z > 1000000
  · have HF := Lib.hid (HN.out (fun c => by have := c.2.1; omega))
    go_enter Tryz.func6, Tryz.ntmps6
    go_wp2
    go_ret
    exact ⟨ret_s HF.out, B0.out⟩
  by_cases hok : PtrOkM p
  case neg =>
    have HF := Lib.hid (HN.out (fun c => hok (Or.inr c.2.2)))
    go_enter Tryz.func6, Tryz.ntmps6
    go_wp2_with fail
    refine (specPtrOk_is p _ false (decide_eq_false hok)).mono ?_
    rintro e w1 ⟨rfl, hb⟩
    have B1 := Lib.hid (B0.out.trans (hb.mono B0.out.size))
    go_wp2
    go_ret
    exact ⟨ret_s HF.out, B1.out⟩
  case pos =>
  go_enter Tryz.func6, Tryz.ntmps6
  go_wp2_with fail
  refine (specPtrOk_is p _ true (decide_eq_true hok)).mono ?_
  rintro e w1 ⟨rfl, hb⟩
  have XP1 := Lib.hid (XP.out.below hb XP.out.lt)
  have B1 := Lib.hid (B0.out.trans (hb.mono B0.out.size))
  have hlt : w.heap.size + 1 ≤ w1.heap.size := by have := hb.size; omega
  clear hb XP B0 hsz
  obtain ⟨x0, x1, x2⟩ := XP1.out.three
  by_cases hn : p.at_ = 0
  case pos =>
    have HF := Lib.hid (HN.out (fun c => by have := c.2.2.1; omega))
    rw [hn] at x0
    clear hok hn
    go_wp2
    go_ret
    exact ⟨ret_s HF.out, B1.out⟩
  case neg =>
  have hg : GoodM p := hok.resolve_left (fun c => hn c.1)
  have HT := Lib.hid (show sealB (uberB z p) = R from by rw [← HR.out]; unfold uberText; rw [if_pos ⟨by omega, by omega, hg⟩])
  have l1 := Lib.itoa_length_le z (by omega) (by omega)
  have l2 := ptrText_bd p hg
  obtain ⟨t1, H1⟩ : ∃ t, Hid ((⟨(Lib.itoa z).toArray⟩ : ByteArray) = t) := ⟨_, Lib.hid rfl⟩
  obtain ⟨t2, H2⟩ : ∃ t, Hid (ptrText p = t) := ⟨_, Lib.hid rfl⟩
  rw [H2.out] at l2
  have HU := Lib.hid (show uberB z p = t1 ++ (⟨#[32]⟩ : ByteArray) ++ t2 ++ (⟨#[32]⟩ : ByteArray) ++ t1 from by unfold uberB; rw [H1.out, H2.out])
  rw [HU.out] at HT
  have z1 : t1.size ≤ 21 := by rw [← H1.out]; show (Lib.itoa z).toArray.size ≤ 21; simpa using l1
  have k1 : ∀ w, (Op.stringOp .add t1 (⟨#[32]⟩ : ByteArray)).run Tryz.prog w = .ok (.string (t1 ++ (⟨#[32]⟩ : ByteArray))) w := add_str _ _ (by show t1.size + 1 ≤ _; omega)
  have k2 : ∀ w, (Op.stringOp .add (t1 ++ (⟨#[32]⟩ : ByteArray)) t2).run Tryz.prog w = .ok (.string (t1 ++ (⟨#[32]⟩ : ByteArray) ++ t2)) w := add_str _ _ (by rw [ByteArray.size_append]; show t1.size + 1 + _ ≤ _; omega)
  have k3 : ∀ w, (Op.stringOp .add (t1 ++ (⟨#[32]⟩ : ByteArray) ++ t2) (⟨#[32]⟩ : ByteArray)).run Tryz.prog w = .ok (.string (t1 ++ (⟨#[32]⟩ : ByteArray) ++ t2 ++ (⟨#[32]⟩ : ByteArray))) w := add_str _ _ (by rw [ByteArray.size_append, ByteArray.size_append]; show t1.size + 1 + _ + 1 ≤ _; omega)
  have k4 : ∀ w, (Op.stringOp .add (t1 ++ (⟨#[32]⟩ : ByteArray) ++ t2 ++ (⟨#[32]⟩ : ByteArray)) t1).run Tryz.prog w = .ok (.string (t1 ++ (⟨#[32]⟩ : ByteArray) ++ t2 ++ (⟨#[32]⟩ : ByteArray) ++ t1)) w := add_str _ _ (by rw [ByteArray.size_append, ByteArray.size_append, ByteArray.size_append]; show t1.size + 1 + _ + 1 + _ ≤ _; omega)
  have hsz : (t1 ++ (⟨#[32]⟩ : ByteArray) ++ t2 ++ (⟨#[32]⟩ : ByteArray) ++ t1).size ≤ 1000000 := by
    rw [ByteArray.size_append, ByteArray.size_append, ByteArray.size_append, ByteArray.size_append]; show t1.size + 1 + _ + 1 + _ ≤ _; omega
  clear l1 hok hg HN HU HR
  go_wp2_with fail
  go_region_held3 (fun w' => w.heap.size + 1 ≤ w'.heap.size ∧ w'.cell? ⟨w.heap.size, 0, none⟩ = some (.int .i64 p.at_) ∧ w'.cell? ⟨w.heap.size, 1, none⟩ = some (.int .i64 p.sum) ∧ w'.cell? ⟨w.heap.size, 2, none⟩ = some (.int .i64 p.birth))
    (first
      | exact ⟨by simp; omega, x0, x1, x2⟩
      | (go_split_ands
         refine ⟨Nat.le_trans (by assumption) hb5.size, ?_, ?_, ?_⟩
         all_goals (rw [hb5.cell (by simp <;> omega)]; assumption))
      | (go_split_ands
         refine ⟨Nat.le_trans (by assumption) hb4.size, ?_, ?_, ?_⟩
         all_goals (rw [hb4.cell (by simp <;> omega)]; assumption))
      | (go_split_ands
         refine ⟨Nat.le_trans (by assumption) hb3.size, ?_, ?_, ?_⟩
         all_goals (rw [hb3.cell (by simp <;> omega)]; assumption))
      | (go_split_ands
         refine ⟨Nat.le_trans (by assumption) hb2.size, ?_, ?_, ?_⟩
         all_goals (rw [hb2.cell (by simp <;> omega)]; assumption)))
    (first
      | (go_at_call 23; ((with_reducible refine (specSeal_is _ R _ hsz HT.out).mono ?_); rintro e w5 ⟨rfl, hb5⟩))
      | (go_at_call 25; ((with_reducible refine (specPtrText_is p t2 _ H2.out).mono ?_); rintro e w3 ⟨rfl, hb3⟩))
      | (go_at_call 24; ((with_reducible refine (decIs z _ (by omega) (by omega) t1 H1.out).mono ?_); first | (have hq3 := hb3; clear hq3; rintro e w4 ⟨rfl, hb4⟩) | (rintro e w2 ⟨rfl, hb2⟩))))
  have hb25 := (below_three' (a := w1) hb2 hb3 hb4).trans (hb5.mono (below_three' (a := w1) hb2 hb3 hb4).size)
  have B5 := Lib.hid (B1.out.trans (hb25.mono B1.out.size))
  clear hb2 hb3 hb4 hb5 hb25 x0 x1 x2 B1
  go_wp2
  go_ret
  exact ⟨rfl, B5.out⟩
theorem specUber_is (z : Int) (p : PtrM) (t : ByteArray) (w : World) (ht : uberText z p = t) :
    Calls Tryz.prog 6 #[.int .i64 z, pv p] w fun e w' => e = .returned (.string t) ∧ Below w.heap.size w w' := ht ▸ specUber_any z p w

theorem sl_strs (w : World) (ss : List ByteArray) (e : Nat) (n : Nat) (hn : ss.length = n) (hm : n ≤ 1000) : Sl (w.alloc (.cells (scs ss).toArray e)) 1 (.slice (some ⟨w.heap.size, 0, none⟩) n n) ss.length (scs ss) := by
  subst hn
  refine ⟨by rw [scs_length, Nat.mul_one], _, _, rfl, Nat.le_refl _, by unfold maxLen; omega, Or.inr ⟨w.heap.size, 0, rfl, fun j u hu => ?_⟩⟩
  have := (box_new w (scs ss).toArray e).cell j (by simpa using hu)
  rwa [Nat.zero_add]
theorem joinB_three (a b c sep : ByteArray) : joinB [a, b, c] sep = a ++ sep ++ b ++ sep ++ c := by
  have h1 := joinB_snoc [a, b] c sep
  have h2 := joinB_snoc [a] b sep
  rw [if_neg (by simp)] at h1 h2
  simp only [List.cons_append, List.nil_append] at h1 h2
  rw [h1, h2, joinB_one]

set_option maxHeartbeats 2000000 in
theorem implUber_any (z : Int) (p : PtrM) (w : World) (hp : HasPow w) :
    Calls Tryz.prog 5 #[.int .i64 z, pv p] w fun e w' => e = .returned (.string (uberText z p)) ∧ Below w.heap.size w w' := by
  have hnot : ∀ (x : Bool) (w : World), (Op.unary .not (.bool x)).run Tryz.prog w = .ok (.bool (!x)) w := fun _ _ => rfl
  obtain ⟨R, HR⟩ : ∃ R, Hid (uberText z p = R) := ⟨_, Lib.hid rfl⟩
  rw [HR.out]
  obtain ⟨hX, hsz, hB⟩ := box1 w #[.int .i64 p.at_, .int .i64 p.sum, .int .i64 p.birth] 24
  have XP := Lib.hid hX
  have B0 := Lib.hid hB
  have P0 := Lib.hid hp
  clear hX hB hp
  have HN := Lib.hid (show ¬ UberOk z p → (⟨#[]⟩ : ByteArray) = R from fun h => by rw [← HR.out]; unfold uberText; rw [if_neg h])
  by_cases h1 : z < 1
  · have HF := Lib.hid (HN.out (fun c => by have := c.1; omega))
    go_enter Tryz.func5, Tryz.ntmps5
    go_wp2
    go_ret
    exact ⟨ret_s HF.out, B0.out⟩
  by_cases h2 : z > 1000000
  · have HF := Lib.hid (HN.out (fun c => by have := c.2.1; omega))
    go_enter Tryz.func5, Tryz.ntmps5
    go_wp2
    go_ret
    exact ⟨ret_s HF.out, B0.out⟩
  by_cases hg : GoodM p
  case neg =>
    have HF := Lib.hid (HN.out (fun c => hg c.2.2))
    go_enter Tryz.func5, Tryz.ntmps5
    go_wp2_with fail
    refine (corePoints_is p _ false (decide_eq_false hg)).mono ?_
    rintro e w1 ⟨rfl, hb⟩
    have B1 := Lib.hid (B0.out.trans (hb.mono B0.out.size))
    go_wp2
    go_ret
    exact ⟨ret_s HF.out, B1.out⟩
  case pos =>
  have HT := Lib.hid (show sealB (uberB z p) = R from by rw [← HR.out]; unfold uberText; rw [if_pos ⟨by omega, by omega, hg⟩])
  have l1 := Lib.itoa_length_le z (by omega) (by omega)
  have l2 := ptrText_bd p hg
  obtain ⟨t1, H1⟩ : ∃ t, Hid ((⟨(Lib.itoa z).toArray⟩ : ByteArray) = t) := ⟨_, Lib.hid rfl⟩
  obtain ⟨t2, H2⟩ : ∃ t, Hid (ptrText p = t) := ⟨_, Lib.hid rfl⟩
  rw [H2.out] at l2
  have HU := Lib.hid (show uberB z p = joinB [t1, t2, t1] ⟨#[32]⟩ from by unfold uberB; rw [H1.out, H2.out, joinB_three])
  rw [HU.out] at HT
  have z1 : t1.size ≤ 21 := by rw [← H1.out]; show (Lib.itoa z).toArray.size ≤ 21; simpa using l1
  obtain ⟨t3, H3⟩ : ∃ t, Hid (joinB [t1, t2, t1] ⟨#[32]⟩ = t) := ⟨_, Lib.hid rfl⟩
  rw [H3.out] at HT
  have hsz3 : t3.size ≤ 1000000 := by
    rw [← H3.out, joinB_three, ByteArray.size_append, ByteArray.size_append, ByteArray.size_append, ByteArray.size_append]; show t1.size + 1 + _ + 1 + _ ≤ _; omega
  clear l1 HN HU HR
  go_enter Tryz.func5, Tryz.ntmps5
  go_wp2_with fail
  refine (corePoints_is p _ true (decide_eq_true hg)).mono ?_
  rintro e w1 ⟨rfl, hb⟩
  have XP1 := Lib.hid (XP.out.below hb XP.out.lt)
  have B1 := Lib.hid (B0.out.trans (hb.mono B0.out.size))
  have P1 := Lib.hid (P0.out.below B1.out P0.out.lt)
  have hlt : w.heap.size + 1 ≤ w1.heap.size := by have := hb.size; omega
  clear hb XP B0 hsz hg
  go_wp2_with fail
  refine (itoaIs z _ (by omega) (by omega) P1.out t1 H1.out).mono ?_
  rintro e w2 ⟨rfl, hb⟩
  have XP2 := Lib.hid (XP1.out.below hb XP1.out.lt)
  have B2 := Lib.hid (B1.out.trans (hb.mono B1.out.size))
  have P2 := Lib.hid (P0.out.below B2.out P0.out.lt)
  have hlt2 : w.heap.size + 1 ≤ w2.heap.size := by have := hb.size; omega
  clear hb XP1 B1 P1
  obtain ⟨x0, x1, x2⟩ := (XP2.out.alloc (.cells #[.slice none 0 0] 50)).three
  have W0 := Lib.hid (wr_new w2 50)
  have B3 := Lib.hid (B2.out.alloc B2.out.size (.cells #[.slice none 0 0] 50))
  have P3 := Lib.hid (P0.out.below B3.out P0.out.lt)
  clear XP2
  go_wp2_with fail
  refine (implPtrText_is p t2 _ P3.out H2.out).mono ?_
  rintro e w4 ⟨rfl, hb⟩
  have W4 := Lib.hid (W0.out.below hb)
  have B4 := Lib.hid (B3.out.trans (hb.mono B3.out.size))
  have hw4 : w2.heap.size + 1 ≤ w4.heap.size := by have := hb.size; simp at this; omega
  clear hb W0 B3 P3 x0 x1 x2
  have S5 := Lib.hid (sl_strs w4 [t1, t2, t1] 9 3 rfl (by omega))
  have W5 := Lib.hid (W4.out.below (Below.new (w := w4) (.cells (scs [t1, t2, t1]).toArray 9)))
  have B5 := Lib.hid (B4.out.alloc B4.out.size (.cells (scs [t1, t2, t1]).toArray 9))
  clear W4 B4
  go_wp2_with fail
  refine (line_any w2.heap.size w2.heap.size (.slice none 0 0) [] _ [t1, t2, t1] t3 _ W5.out S5.out (fun b e => by simp [Value.ownBlock] at e; simp; omega) (by simp) (by simp) (by omega) H3.out).mono ?_
  rintro e w6 ⟨rfl, ⟨v6, W6⟩, hb⟩
  have HW6 := Lib.hid W6
  have B6 := Lib.hid (B5.out.trans (hb.mono (by omega)))
  clear hb W5 B5 S5 W6
  go_wp2_with fail
  refine (text_wr w2.heap.size w2.heap.size v6 _ t3 _ HW6.out (by simp) (by omega) (by rw [List.nil_append, joinB_one])).mono ?_
  rintro e w7 ⟨rfl, hb⟩
  have B7 := Lib.hid (B6.out.trans (hb.mono B6.out.size))
  have P7 := Lib.hid (P0.out.below B7.out P0.out.lt)
  clear hb B6 HW6
  go_wp2_with fail
  refine (implSeal_is t3 R _ hsz3 P7.out HT.out).mono ?_
  rintro e w8 ⟨rfl, hb⟩
  have B8 := Lib.hid (B7.out.trans (hb.mono B7.out.size))
  clear hb B7
  go_wp2
  go_ret
  exact ⟨rfl, B8.out⟩
theorem implUber_is (z : Int) (p : PtrM) (t : ByteArray) (w : World) (hp : HasPow w) (ht : uberText z p = t) :
    Calls Tryz.prog 5 #[.int .i64 z, pv p] w fun e w' => e = .returned (.string t) ∧ Below w.heap.size w w' := ht ▸ implUber_any z p w hp
end Go.Proofs.YtfcfgdpelbljnaaGreatDoor
