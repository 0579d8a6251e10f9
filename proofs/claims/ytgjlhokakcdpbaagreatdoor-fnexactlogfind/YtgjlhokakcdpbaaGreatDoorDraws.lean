/-
  Texts joined into one: the draws of disks, and what they want.
-/
import Derived.WalkKit
import Derived.IntWalk
import Derived.Test.YtgjlhokakcdpbaaGreatDoorRows
import Derived.Test.YtgjlhokakcdpbaaGreatDoorBase
import Derived.ProofKit
import Derived.Lib.Hide
import Derived.WalkSpells
import Derived.WalkSmall
import Derived.Laws.Pointers
import Derived.Deep.QuietTactic
import Derived.BigQuiet
import Derived.Deep.Draws
import Derived.Maps.AppendAt
import Derived.Test.YtgjlhokakcdpbaaGreatDoorDiskArg
import Derived.Test.YtgjlhokakcdpbaaGreatDoorTexts
import Derived.Test.YtgjlhokakcdpbaaGreatDoorDisks

/-
  The number that a reader picks past its code's end lies below its bound: plain arithmetic.
-/
set_option maxRecDepth 100000
namespace Go.Proofs.Palim
open Go Go.RowKit

/-- The exclusive or of two small numbers is not negative. -/
theorem xor_small (a b : Nat) (ha : a < 4294967296) (hb : b < 4294967296) : 0 ≤ bits .xor .i64 (a : Int) (b : Int) := by
  have e : bits .xor .i64 (a : Int) (b : Int) = IntKind.i64.wrap ((BitVec.ofInt 64 (a : Int) ^^^ BitVec.ofInt 64 (b : Int)).toNat : Int) := rfl
  have one : ∀ c : Nat, c < 4294967296 → (BitVec.ofInt 64 (c : Int)).toNat = c := fun c hc => by
    rw [BitVec.ofInt_natCast, BitVec.toNat_ofNat, Nat.mod_eq_of_lt (by omega)]
  have lt : a ^^^ b < 2 ^ 32 := Nat.xor_lt_two_pow (by omega) (by omega)
  rw [e, BitVec.toNat_xor, one a ha, one b hb, IntWalk.i64_in _ (by omega)]
  exact Int.natCast_nonneg _

theorem pick_val (x y : UInt8) (k n m : Nat) (hk : k ≤ 1000000) (hm : 0 < m) : ∃ r : Nat, r < m ∧
    (bits .xor .i64 (wrap64 ((x.toNat : Int) * 131 + (y.toNat : Int) * 1117 + (k : Int) * 29 + wrap64 (wrap64 ((k : Int) / (n : Int)) * 53)))
      (wrap64 ((wrap64 ((x.toNat : Int) * 131 + (y.toNat : Int) * 1117 + (k : Int) * 29 + wrap64 (wrap64 ((k : Int) / (n : Int)) * 53))).tdiv 64))).tmod (m : Int) = (r : Int) := by
  have hx := x.toNat_lt
  have hy := y.toNat_lt
  have hq : k / n ≤ k := Nat.div_le_self _ _
  obtain ⟨Q, hQ, hQ1⟩ : ∃ Q : Nat, (k : Int) / (n : Int) = (Q : Int) ∧ Q ≤ k := ⟨k / n, rfl, hq⟩
  rw [hQ, IntWalk.wrap64_in (Q : Int) (by omega), IntWalk.wrap64_in ((Q : Int) * 53) (by omega)]
  obtain ⟨X, hX, hX1⟩ : ∃ X : Nat, (x.toNat : Int) * 131 + (y.toNat : Int) * 1117 + (k : Int) * 29 + (Q : Int) * 53 = (X : Int) ∧ X < 4294967296 :=
    ⟨x.toNat * 131 + y.toNat * 1117 + k * 29 + Q * 53, by omega, by omega⟩
  rw [hX, IntWalk.wrap64_in (X : Int) (by omega)]
  have e1 : (X : Int).tdiv 64 = ((X / 64 : Nat) : Int) := rfl
  rw [e1, IntWalk.wrap64_in ((X / 64 : Nat) : Int) (by omega)]
  have h0 := xor_small X (X / 64) hX1 (by omega)
  obtain ⟨Y, hY⟩ : ∃ Y : Nat, bits .xor .i64 (X : Int) ((X / 64 : Nat) : Int) = (Y : Int) := ⟨(bits .xor .i64 (X : Int) ((X / 64 : Nat) : Int)).toNat, by omega⟩
  rw [hY]
  exact ⟨Y % m, Nat.mod_lt _ hm, rfl⟩
end Go.Proofs.Palim

/-
  The reader of codes from which the laws' inputs are drawn: it picks numbers below a bound, and turns nothing but itself.
-/
set_option maxRecDepth 100000
namespace Go.Proofs.YtgjlhokakcdpbaaGreatDoor
open Go.ChangeShapes Go.WideShapes Go.ChangeAt Go.RowKit Go.Proofs.Palim

/-- A reader lies in block g; it has picked k times. -/
def Rd (w : World) (g k : Nat) : Prop := ∃ (A : Option Addr) (n c : Nat), w.heap[g]? = some (.cells #[.slice A n c, .int .i64 (k : Int)] 147 (0, 0)) ∧ n ≤ 2000 ∧
  (n = 0 ∨ ∃ b off, A = some ⟨b, off, none⟩ ∧ b < g ∧ ∀ i, i < n → ∃ x : UInt8, w.cell? ⟨b, off + i, none⟩ = some (.int .u8 (x.toNat : Int)))
theorem Rd.lt {w : World} {g k : Nat} (h : Rd w g k) : g < w.heap.size := by
  obtain ⟨A, n, c, h, _⟩ := h
  exact (Array.getElem?_eq_some_iff.1 h).1
/-- One more pick. -/
theorem Rd.next {w : World} {g k : Nat} (h : Rd w g k) (q : Nat) : Rd ((w.setCell ⟨g, 1, none⟩ (.int .i64 ((k : Int) + 1))).drewN q) g (k + 1) := by
  obtain ⟨A, n, c, h, hn, hr⟩ := h
  refine ⟨A, n, c, ?_, hn, ?_⟩
  · show (w.setCell ⟨g, 1, none⟩ (.int .i64 ((k : Int) + 1))).heap[g]? = _
    simp [World.setCell, Array.getElem?_modify, h]
  · refine hr.imp id ?_
    rintro ⟨b, off, rfl, hb, hc⟩
    refine ⟨b, off, rfl, hb, fun i hi => ?_⟩
    obtain ⟨x, hx⟩ := hc i hi
    refine ⟨x, ?_⟩
    show (w.setCell ⟨g, 1, none⟩ (.int .i64 ((k : Int) + 1))).cell? _ = _
    rw [World.cell?_setCell_other _ _ _ _ (by intro e; injection e; omega)]
    exact hx

def PickPost (w : World) (g k m : Nat) (e : Ending) (w' : World) : Prop :=
  ∃ r q : Nat, (r < m ∨ m = 0 ∧ r = 0) ∧ e = .returned (.int .i64 (r : Int)) ∧ w' = (w.setCell ⟨g, 1, none⟩ (.int .i64 ((k : Int) + 1))).drewN q

set_option maxHeartbeats 1000000 in
theorem pick_any (g k m : Nat) (w : World) (hr : Rd w g k) (hk : k ≤ 1000000) (hm : m ≤ 2147483647) :
    Calls Tryz.prog 101 #[.pointer (some ⟨g, 0, none⟩), .int .i64 (m : Int)] w (PickPost w g k m) := by
  obtain ⟨A, n, c, hh, hn, hrd⟩ := hr
  have c0 : w.cell? ⟨g, 0, none⟩ = some (.slice A n c) := cell_of_row w g 0 _ _ _ hh
  have c1 : w.cell? ⟨g, 1, none⟩ = some (.int .i64 (k : Int)) := cell_of_row w g 1 _ _ _ hh
  have f1 : w.frozen? ⟨g, 1, none⟩ = false := by simp [World.frozen?, hh]
  clear hh
  by_cases hz : m < 1
  · go_enter Tryz.func101, Tryz.ntmps101
    go_wp2
    go_ret
    exact ⟨0, 0, by omega, rfl, rfl⟩
  by_cases hn0 : n = 0
  · subst hn0
    go_enter Tryz.func101, Tryz.ntmps101
    go_wp2
    all_goals go_ret
    all_goals exact ⟨0, 0, by omega, rfl, rfl⟩
  obtain ⟨b, off, rfl, hb, hc⟩ := hrd.resolve_left hn0
  have hz0 : ((n : Int) == 0) = false := by simpa using hn0
  by_cases hkn : k < n
  · obtain ⟨x, hx⟩ := hc k hkn
    have hxb := x.toNat_lt
    have hx' : (w.setCell ⟨g, 1, none⟩ (.int .i64 ((k : Int) + 1))).cell? ⟨b, off + k, none⟩ = some (.int .u8 (x.toNat : Int)) := by
      rw [World.cell?_setCell_other _ _ _ _ (by intro e; injection e; omega)]; exact hx
    clear hx hc hrd
    go_enter Tryz.func101, Tryz.ntmps101
    go_wp2
    go_ret
    exact ⟨x.toNat % m, 0, Or.inl (Nat.mod_lt _ (by omega)), ret_int (by omega), rfl⟩
  · obtain ⟨i1, HI1⟩ : ∃ i, Hid (i = k % n) := ⟨_, Lib.hid rfl⟩
    obtain ⟨i2, HI2⟩ : ∃ i, Hid (i = (k * 7 + 3) % n) := ⟨_, Lib.hid rfl⟩
    have hi1 : i1 < n := by rw [HI1.out]; exact Nat.mod_lt _ (by omega)
    have hi2 : i2 < n := by rw [HI2.out]; exact Nat.mod_lt _ (by omega)
    obtain ⟨x, hx⟩ := hc i1 hi1
    obtain ⟨y, hy⟩ := hc i2 hi2
    have hxb := x.toNat_lt
    have hyb := y.toNat_lt
    have hx' : (w.setCell ⟨g, 1, none⟩ (.int .i64 ((k : Int) + 1))).cell? ⟨b, off + i1, none⟩ = some (.int .u8 (x.toNat : Int)) := by
      rw [World.cell?_setCell_other _ _ _ _ (by intro e; injection e; omega)]; exact hx
    have hy' : (w.setCell ⟨g, 1, none⟩ (.int .i64 ((k : Int) + 1))).cell? ⟨b, off + i2, none⟩ = some (.int .u8 (y.toNat : Int)) := by
      rw [World.cell?_setCell_other _ _ _ _ (by intro e; injection e; omega)]; exact hy
    clear hx hy hc hrd
    have e1 : (k : Int).tmod (n : Int) = (i1 : Int) := by rw [HI1.out]; rfl
    have e2 : IntKind.i64.wrap (i1 : Int) = (i1 : Int) := IntWalk.i64_in _ (by omega)
    have e3 : IntKind.i64.wrap ((k : Int) * 7) = (k : Int) * 7 := IntWalk.i64_in _ (by omega)
    have e4 : IntKind.i64.wrap ((k : Int) * 7 + 3) = (k : Int) * 7 + 3 := IntWalk.i64_in _ (by omega)
    have e5 : ((k : Int) * 7 + 3).tmod (n : Int) = (i2 : Int) := by rw [HI2.out]; rfl
    have e6 : IntKind.i64.wrap (i2 : Int) = (i2 : Int) := IntWalk.i64_in _ (by omega)
    have e7 : (i1 : Int) < (n : Int) := by omega
    have e8 : (i2 : Int) < (n : Int) := by omega
    go_enter Tryz.func101, Tryz.ntmps101
    go_wp2_with fail
    go_quiet (fail)
    go_wp2
    go_ret
    obtain ⟨r, hr1, hr2⟩ := pick_val x y k n m hk (by omega)
    exact ⟨r, nq, Or.inl hr1, ret_int hr2, rfl⟩
end Go.Proofs.YtgjlhokakcdpbaaGreatDoor

/-
  Drawn texts: 'of' hands back one of its list; a drawn text is short; the reader alone is turned, and new blocks are laid.
-/
set_option maxRecDepth 100000
namespace Go.Proofs.YtgjlhokakcdpbaaGreatDoor
open Go.ChangeShapes Go.WideShapes Go.ChangeAt Go.RowKit Go.Proofs.Palim

/-- A reader stands as it was where its own block and its code's are as they were. -/
theorem Rd.kept {w w' : World} {g k : Nat} (h : Rd w g k) (hb : ∀ b, b ≤ g → w'.heap[b]? = w.heap[b]?) : Rd w' g k := by
  obtain ⟨A, n, c, h, hn, hr⟩ := h
  refine ⟨A, n, c, by rw [hb g (Nat.le_refl _)]; exact h, hn, hr.imp id ?_⟩
  rintro ⟨b, off, rfl, hlt, hc⟩
  refine ⟨b, off, rfl, hlt, fun i hi => ?_⟩
  obtain ⟨x, hx⟩ := hc i hi
  exact ⟨x, (World.cell?_of_block (hb b (by omega))).trans hx⟩
theorem Rd.alloc {w : World} {g k : Nat} (h : Rd w g k) (o : Obj) : Rd (w.alloc o) g k :=
  h.kept fun b hb => Below.heap_alloc w o b (by have := h.lt; omega)
theorem grown_pick {w0 w : World} {g : Nat} (h : w0.grownBy w (some g)) (v : Value) (q : Nat) : w0.grownBy ((w.setCell ⟨g, 1, none⟩ v).drewN q) (some g) :=
  ⟨h.os, h.tape, h.output, by simpa [World.setCell] using h.size, fun i hi hne => by
    have e : ((w.setCell ⟨g, 1, none⟩ v).drewN q).heap[i]? = (w.setCell ⟨g, 1, none⟩ v).heap[i]? := rfl
    rw [e, Below.heap_setCell w _ v i (fun e => hne (by rw [e]))]
    exact h.block i hi hne⟩
theorem grown_alloc {w0 w : World} {g : Nat} (h : w0.grownBy w (some g)) (o : Obj) : w0.grownBy (w.alloc o) (some g) :=
  ⟨h.os, h.tape, h.output, Nat.le_trans h.size (by simp), fun i hi hne => (Below.heap_alloc w o i (Nat.lt_of_lt_of_le hi h.size)).trans (h.block i hi hne)⟩

def OfPost (w : World) (g k : Nat) (ss : List ByteArray) (e : Ending) (w' : World) : Prop :=
  ∃ s q, s ∈ ss ∧ e = .returned (.string s) ∧ w' = (w.setCell ⟨g, 1, none⟩ (.int .i64 ((k : Int) + 1))).drewN q

set_option maxHeartbeats 400000 in
theorem of_any (g k h L : Nat) (ss : List ByteArray) (t : TypeId) (fr : Nat × Nat) (w : World) (hr : Rd w g k) (hk : k ≤ 1000000) (hh : w.heap[h]? = some (.cells (scs ss).toArray t fr)) (hgh : h ≠ g) (hL : ss.length = L) (hs0 : 0 < L) (hs1 : L ≤ 1000) :
    Calls Tryz.prog 105 #[.pointer (some ⟨g, 0, none⟩), .slice (some ⟨h, 0, none⟩) L L] w (OfPost w g k ss) := by
  have HR := Lib.hid hr
  have HH := Lib.hid hh
  have HL := Lib.hid hL
  clear hr hh hL
  go_enter Tryz.func105, Tryz.ntmps105
  go_wp2_with fail
  refine (pick_any g k L w HR.out hk (by omega)).mono ?_
  rintro e w1 ⟨r, q, hr, rfl, rfl⟩
  have hr1 : r < ss.length := by have := HL.out; omega
  have hr2 : (r : Int) < (L : Int) := by omega
  have hc : (w.setCell ⟨g, 1, none⟩ (.int .i64 ((k : Int) + 1))).cell? ⟨h, r, none⟩ = some (.string ss[r]) := by
    rw [World.cell?_setCell_other _ _ _ _ (by intro e; injection e; omega), cell_of_row w h r _ _ _ HH.out]
    simp [scs, hr1]
  clear hr
  go_wp2
  go_ret
  exact ⟨ss[r], q, List.getElem_mem _, rfl, rfl⟩

/-- What a drawn text is made of. -/
def textBits : List ByteArray := [⟨#[97]⟩, ⟨#[98]⟩, ⟨#[32]⟩, ⟨#[58]⟩, ⟨#[10]⟩, ⟨#[49, 50]⟩, ⟨#[255]⟩, ⟨#[0]⟩, ⟨#[120, 121, 122]⟩]
theorem textBits_size : ∀ s ∈ textBits, s.size ≤ 3 := by decide

def TextPost (w : World) (g k : Nat) (e : Ending) (w' : World) : Prop :=
  ∃ (t : ByteArray) (k' : Nat), t.size ≤ 18 ∧ k' ≤ k + 7 ∧ e = .returned (.string t) ∧ w.grownBy w' (some g) ∧ Rd w' g k'

set_option maxHeartbeats 400000 in
theorem l1Text_any (g k : Nat) (w : World) (hr : Rd w g k) (hk : k ≤ 900000) :
    Calls Tryz.prog 103 #[.pointer (some ⟨g, 0, none⟩)] w (TextPost w g k) := by
  have HR := Lib.hid hr
  clear hr
  go_enter Tryz.func103, Tryz.ntmps103
  go_wp2_with fail
  refine (pick_any g k 7 w HR.out (by omega) (by omega)).mono ?_
  rintro e w1 ⟨r, q, hr, rfl, rfl⟩
  have HR1 := Lib.hid (HR.out.next q)
  have HG := Lib.hid (grown_pick (World.grownBy.refl w (some g)) (.int .i64 ((k : Int) + 1)) q)
  have hr7 : r < 7 := by omega
  clear hr
  go_wp2_with fail
  go_loopw [3, 4] (fun v i wr => ∃ (j kk : Nat) (t : ByteArray), j ≤ 6 ∧ i = .int .i64 (j : Int) ∧ v = .string t ∧ t.size + 3 * j ≤ 18 ∧ kk + j ≤ k + 7 ∧ Hid (Rd wr g kk) ∧ Hid (w.grownBy wr (some g))) (fun _ i _ => (intOf i).toNat)
  case atStart => exact ⟨r, k + 1, ⟨#[]⟩, by omega, rfl, rfl, by show 0 + 3 * r ≤ 18; omega, by omega, HR1, HG⟩
  case round =>
    obtain ⟨j, kk, t, hj, rfl, rfl, ht, hkk, HRr, HGr⟩ := hrel
    by_cases hlt : 0 < j
    · go_wp2_with fail
      refine (of_any g kk wr.heap.size 9 textBits 9 (0, 0) _ (HRr.out.alloc _) (by omega) (heap_alloc_new wr _) (by have := HRr.out.lt; omega) rfl (by omega) (by omega)).mono ?_
      rintro e w2 ⟨s, q2, hs, rfl, rfl⟩
      have hs3 := textBits_size s hs
      have HR2 := Lib.hid ((HRr.out.alloc (.cells (scs textBits).toArray 9)).next q2)
      have HG2 := Lib.hid (grown_pick (grown_alloc HGr.out (.cells (scs textBits).toArray 9)) (.int .i64 ((kk : Int) + 1)) q2)
      clear hs
      have hsz : (t ++ s).size = t.size + s.size := ByteArray.size_append
      have HSZ := Lib.hid hsz
      clear hsz
      go_wp2
      go_roundw
      case rel => exact ⟨j - 1, kk + 1, t ++ s, by omega, by go_num, rfl, by have := HSZ.out; omega, by omega, HR2, HG2⟩
      case measure => simp [intOf]; omega
    · go_wp2
      go_ret
      exact ⟨t, kk, by omega, by omega, rfl, HGr.out, HRr.out⟩
end Go.Proofs.YtgjlhokakcdpbaaGreatDoor

/-
  The laws' own helpers on lists of numbers: copied, compared and marked; and such a list that came in as an argument.
-/
set_option maxRecDepth 100000
namespace Go.Proofs.YtgjlhokakcdpbaaGreatDoor
open Go.ChangeShapes Go.WideShapes Go.ChangeAt Go.RowKit Go.Proofs.Palim Go.Deep

/-- The cells of a list of numbers. -/
def ics (zs : List Int) : List Value := zs.map (Value.int .i64)
theorem ics_length (zs : List Int) : (ics zs).length = zs.length := by simp [ics]
theorem ics_at (zs : List Int) (k : Nat) (h : k < zs.length) : (ics zs)[k]? = some (.int .i64 zs[k]) := by simp [ics, h]
theorem ics_snoc (a : List Int) (z : Int) : ics (a ++ [z]) = ics a ++ [.int .i64 z] := by simp [ics]
theorem infoInt : (Tryz.prog.info? 3).map (fun i => (i.zero, i.size, i.bytes)) = some (some (.int .i64 0), 1, 8) := by kernel_rfl

/-- A new list of numbers of the call's own. -/
def NewInts (w : World) (ss : List Int) (e : Ending) (w' : World) : Prop :=
  ∃ v, e = .returned v ∧ w'.ownsRow w.heap.size 3 1 v ss.length (ics ss) ∧ Below w.heap.size w w'

set_option maxHeartbeats 400000 in
theorem toIntS_any (v : Value) (ss : List Int) (w : World) (h : Sl w 1 v ss.length (ics ss)) (hs : ss.length ≤ 1048576) :
    Calls Tryz.prog 75 #[v] w (NewInts w ss) := by
  obtain ⟨i0, hi, hz0, hz1, hz2⟩ := info_parts infoInt
  obtain ⟨n, HN⟩ : ∃ n, Hid (ss.length = n) := ⟨_, Lib.hid rfl⟩
  rw [HN.out] at h hs
  by_cases hn : n = 0
  · subst hn
    have HE := Lib.hid (List.length_eq_zero_iff.1 HN.out)
    obtain ⟨_, A, c, rfl, _, _, _⟩ := h
    go_enter Tryz.func75, Tryz.ntmps75
    go_wp2_with (first | (at_make; refine wpList_make_full _ rfl _ _ 42 rfl w.heap.size 3 i0 (.int .i64 0) 1 Tryz.underlying42 hi hz0 hz1 _ _ _ _ 0 rfl rfl (by omega) (by omega) (by omega) (by unfold maxLen; omega) (Nat.le_refl _) ?_))
    intro w1 hown hgrow
    go_wp2
    go_loopw [4] (fun i wr => i = .int .i64 0 ∧ wr = w1) (fun _ _ => 0)
    case atStart => exact ⟨rfl, rfl⟩
    case round =>
      obtain ⟨rfl, rfl⟩ := hrel
      go_wp2
      go_ret
      refine ⟨_, rfl, ?_, (Below.refl _ _).grown hgrow (Nat.le_refl _) (fun _ h => by cases h)⟩
      rw [HE.out]
      have e0 := List.length_eq_zero_iff.1 (show (madeCells #[Value.int .i64 0] 0).toList.length = 0 from by simpa using hown.1)
      have h2 := hown
      rw [e0] at h2
      exact h2
  · obtain ⟨b, off, c, rfl, hnc, hcm, hcell⟩ := h.form (by omega)
    have hbl : b < w.heap.size := h.lt (by omega) (by omega) b rfl
    have HC := Lib.hid hcell
    unfold maxLen at hcm
    clear hcell h
    go_enter Tryz.func75, Tryz.ntmps75
    go_wp2_with (first | (at_make; refine wpList_make_full _ rfl _ _ 42 rfl w.heap.size 3 i0 (.int .i64 0) 1 Tryz.underlying42 hi hz0 hz1 _ _ _ _ n rfl rfl rfl rfl (by rw [hz2]; omega) (by unfold maxLen; omega) (Nat.le_refl _) ?_))
    intro w1 hown hgrow
    go_wp2
    go_loopw [4] (fun i wr => ∃ (k : Nat) (xs : List Value), k ≤ n ∧ i = .int .i64 k ∧ Hid (wr.ownsRow w.heap.size 3 1 (.slice (some ⟨w.heap.size, 0, none⟩) n n) n xs) ∧ Hid (xs.take k = ics (ss.take k)) ∧ Hid (Below w.heap.size w wr)) (fun i _ => n - (intOf i).toNat)
    case atStart => exact ⟨0, _, Nat.zero_le _, rfl, Lib.hid hown, Lib.hid rfl, Lib.hid ((Below.refl _ _).grown hgrow (Nat.le_refl _) (fun _ h => by cases h))⟩
    case round =>
      obtain ⟨k, xs, hk, rfl, HO, HT, HB⟩ := hrel
      clear hown hgrow
      by_cases hlt : k < n
      · have hlt' : k < ss.length := by rw [HN.out]; exact hlt
        have hrd : wr.cell? ⟨b, off + k, none⟩ = some (.int .i64 ss[k]) := (HB.out.cell hbl).trans (HC.out k _ (ics_at ss k hlt'))
        obtain ⟨⟨u, _, hcu⟩, hfu, _, _⟩ := own_at HO.out k (by omega)
        have HO2 := Lib.hid (own_set HO.out k (.int .i64 ss[k]))
        have HB2 := Lib.hid (HB.out.setCell (p := ⟨w.heap.size, k, none⟩) (Nat.le_refl _) (.int .i64 ss[k]))
        have HT2 := Lib.hid (show (xs.set k (.int .i64 ss[k])).take (k + 1) = ics (ss.take (k + 1)) from by
          have hl : k < xs.length := by have := HO.out.1; omega
          rw [take_set_succ xs k _ hl, HT.out, List.take_succ_eq_append_getElem hlt', ics_snoc])
        clear HO HT HB
        go_wp2
        go_roundw
        case rel => exact ⟨k + 1, _, by omega, by go_num, HO2, HT2, HB2⟩
        case measure => simp [intOf]; omega
      · have hkn : k = n := by omega
        have HX := Lib.hid (show xs = ics ss from by
          have hl := HO.out.1
          have ht := HT.out
          rw [List.take_of_length_le (by omega), List.take_of_length_le (by rw [HN.out]; omega)] at ht
          exact ht)
        clear hkn
        go_wp2
        go_ret
        refine ⟨_, rfl, ?_, HB.out⟩
        rw [HN.out, ← HX.out]
        exact HO.out

set_option maxHeartbeats 400000 in
theorem eqIntS_same (va vb : Value) (ss : List Int) (w : World) (ha : Sl w 1 va ss.length (ics ss)) (hb : Sl w 1 vb ss.length (ics ss)) (hs : ss.length ≤ 1048576) :
    Calls Tryz.prog 84 #[va, vb] w (Drawn (.bool true) w) := by
  obtain ⟨n, HN⟩ : ∃ n, Hid (ss.length = n) := ⟨_, Lib.hid rfl⟩
  rw [HN.out] at ha hb hs
  by_cases hn : n = 0
  · subst hn
    obtain ⟨_, A, c, rfl, _, _, _⟩ := ha
    obtain ⟨_, A', c', rfl, _, _, _⟩ := hb
    go_enter Tryz.func84, Tryz.ntmps84
    go_wp2
    go_loopw [5] (fun i wr => i = .int .i64 0 ∧ wr = w) (fun _ _ => 0)
    case atStart => exact ⟨rfl, rfl⟩
    case round =>
      obtain ⟨rfl, rfl⟩ := hrel
      go_wp2
      go_ret
      exact ⟨rfl, 0, rfl⟩
  · obtain ⟨b, off, c, rfl, hnc, hcm, hcell⟩ := ha.form (by omega)
    obtain ⟨b', off', c', rfl, hnc', hcm', hcell'⟩ := hb.form (by omega)
    have HC := Lib.hid hcell
    have HC' := Lib.hid hcell'
    unfold maxLen at hcm hcm'
    clear hcell hcell' ha hb
    go_enter Tryz.func84, Tryz.ntmps84
    go_wp2
    go_loopw [5] (fun i wr => ∃ (k q : Nat), k ≤ n ∧ i = .int .i64 k ∧ wr = w.drewN q) (fun i _ => n - (intOf i).toNat)
    case atStart => exact ⟨0, 0, Nat.zero_le _, rfl, rfl⟩
    case round =>
      obtain ⟨k, q, hk, rfl, rfl⟩ := hrel
      by_cases hlt : k < n
      · have hlt' : k < ss.length := by rw [HN.out]; exact hlt
        have h1 : w.cell? ⟨b, off + k, none⟩ = some (.int .i64 ss[k]) := HC.out k _ (ics_at ss k hlt')
        have h2 : w.cell? ⟨b', off' + k, none⟩ = some (.int .i64 ss[k]) := HC'.out k _ (ics_at ss k hlt')
        have hk1 : (k : Int) < (n : Int) := by omega
        go_wp2_with fail
        go_quiet (fail)
        go_wp2
        go_roundw
        case rel => exact ⟨k + 1, _, by omega, by go_num, rfl⟩
        case measure => simp [intOf]; omega
      · go_wp2
        go_ret
        exact ⟨rfl, q, rfl⟩

/-- Marked: the slice is the call's own still, and nothing else that was there has turned. -/
def MarkedI (k : Nat) (v : Value) (base n : Nat) (w : World) (e : Ending) (w' : World) : Prop :=
  e = .returned (.int .i64 ((k + n : Nat) : Int)) ∧ (∃ zs : List Int, zs.length = n ∧ w'.ownsRow base 3 1 v n (ics zs)) ∧ Turned (fun b => v.ownBlock = some b) w w'
def imarks (k n : Nat) : List Int := (List.range n).map fun i => ((k + i : Nat) : Int)
theorem imarks_length (k n : Nat) : (imarks k n).length = n := by simp [imarks]
theorem imarks_succ (k n : Nat) : imarks k (n + 1) = imarks k n ++ [((k + n : Nat) : Int)] := by simp [imarks, List.range_succ]

set_option maxHeartbeats 400000 in
theorem markIntS_any (v : Value) (n k base : Nat) (xs0 : List Value) (w : World) (h : w.ownsRow base 3 1 v n xs0) (hs : n ≤ 1048576) (hk0 : 1 ≤ k) (hk1 : k ≤ 100000000) :
    Calls Tryz.prog 90 #[v, .int .i64 (k : Int)] w (MarkedI k v base n w) := by
  by_cases hn : n = 0
  · subst hn
    obtain ⟨_, A, c, rfl, _, _, _⟩ := sl_of_own h
    have HO := Lib.hid h
    clear h
    go_enter Tryz.func90, Tryz.ntmps90
    go_wp2
    go_loopw [1, 5] (fun l i wr => l = .int .i64 (k : Int) ∧ i = .int .i64 0 ∧ wr = w) (fun _ _ _ => 0)
    case atStart => exact ⟨rfl, rfl, rfl⟩
    case round =>
      obtain ⟨rfl, rfl, rfl⟩ := hrel
      go_wp2
      go_ret
      refine ⟨rfl, ⟨[], rfl, ?_⟩, Turned.refl _ _⟩
      have h0 := HO.out
      have e0 := List.length_eq_zero_iff.1 (show xs0.length = 0 from by simpa using h0.1)
      rw [e0] at h0
      exact h0
  · obtain ⟨g, cap, rfl, hbg, hgl⟩ := h.form (by omega)
    have hcp : cap ≤ maxLen ∧ n ≤ cap := by
      rcases h.2 with ⟨hv, _⟩ | ⟨g', cap', cur, hv, _, _, h1, h2, _⟩
      · cases hv
      · injection hv with e1 e2 e3
        subst e3
        exact ⟨h2, h1⟩
    obtain ⟨hcp1, hcp2⟩ := hcp
    unfold maxLen at hcp1
    have HO0 := Lib.hid h
    clear h
    go_enter Tryz.func90, Tryz.ntmps90
    go_wp2
    go_loopw [1, 5] (fun l i wr => ∃ (j kk : Nat) (xs : List Value), j ≤ n ∧ kk = k + j ∧ l = .int .i64 (kk : Int) ∧ i = .int .i64 (j : Int) ∧ Hid (wr.ownsRow base 3 1 (.slice (some ⟨g, 0, none⟩) n cap) n xs) ∧ Hid (xs.take j = ics (imarks k j)) ∧ Hid (Turned (fun b => b = g) w wr)) (fun _ i _ => n - (intOf i).toNat)
    case atStart => exact ⟨0, k, _, Nat.zero_le _, rfl, rfl, rfl, HO0, Lib.hid rfl, Lib.hid (Turned.refl _ _)⟩
    case round =>
      obtain ⟨j, kk, xs, hj, hkk, rfl, rfl, HO, HT, HW⟩ := hrel
      have HK := Lib.hid hkk
      have hkb : kk ≤ 101048576 := by omega
      have hkb1 : 1 ≤ kk := by omega
      clear hkk
      by_cases hlt : j < n
      · obtain ⟨⟨u, _, hcu⟩, hfu, _, _⟩ := own_at HO.out j (by omega)
        have HO2 := Lib.hid (own_set HO.out j (.int .i64 (kk : Int)))
        have HW2 := Lib.hid (turned_setCell HW.out (p := ⟨g, j, none⟩) rfl (.int .i64 (kk : Int)))
        have HT2 := Lib.hid (show (xs.set j (.int .i64 (kk : Int))).take (j + 1) = ics (imarks k (j + 1)) from by
          have hl : j < xs.length := by have := HO.out.1; omega
          rw [take_set_succ xs j _ hl, HT.out, imarks_succ, ics_snoc, HK.out])
        clear HO HT HW
        go_wp2
        go_roundw
        case rel => exact ⟨j + 1, kk + 1, _, by omega, by have := HK.out; omega, by go_num, by go_num, HO2, HT2, HW2⟩
        case measure => simp [intOf]; omega
      · have hjn : j = n := by omega
        have HX := Lib.hid (show xs = ics (imarks k n) from by
          have hl := HO.out.1
          have ht := HT.out
          rw [List.take_of_length_le (by omega), hjn] at ht
          exact ht)
        have HKN := Lib.hid (show kk = k + n from by rw [HK.out, hjn])
        clear hjn
        go_wp2
        go_ret
        refine ⟨?_, ⟨imarks k n, imarks_length k n, ?_⟩, HW.out.mono ?_⟩
        · exact ret_int (by rw [HKN.out])
        · rw [← HX.out]; exact HO.out
        · rintro b _ rfl; rfl

section
variable {H : Type} {enc : TypeId × Value → H} {W : World}
/-- A list of numbers that came in. -/
theorem ints_of {base fuel : Nat} {v : Value} {x : DataW H × List MemPlace} (ho : Cell.okWide Tryz.prog W .any base 42 v) (h : DataW.trod enc Tryz.prog W 0 (fun _ => true) true fuel 42 [v] = some x) :
    ∃ zs : List Int, Sl W 1 v zs.length (ics zs) := by
  rcases open_slice Tryz.underlying42 h with ⟨hcs, _⟩ | ⟨a, len, cap, m, n, D, Pl, hcs, _, hl, hm, hmm, _, hx⟩
  · obtain rfl : v = .slice none 0 0 := by simpa using hcs
    exact ⟨[], ⟨rfl, none, 0, rfl, Nat.le_refl _, Nat.zero_le _, Or.inl rfl⟩⟩
  · obtain rfl : v = .slice (some a) len cap := by simpa using hcs
    simp only [if_true] at hmm
    subst hmm
    have hsp : a.spot = none := by
      simp only [Cell.okWide, Tryz.underlying42, Cell.ok] at ho
      exact ho.2.2.2.1
    obtain ⟨b, off, sp⟩ := a
    simp at hsp
    subst hsp
    rw [cells3] at hx
    obtain ⟨L, hL⟩ := choose_lt (α := Int) (p := fun i z => W.cell? ⟨b, off + i, none⟩ = some (.int .i64 z)) (n := len) (fun i hi => by
      obtain ⟨cs', h1, h2⟩ := hx i (by omega)
      obtain ⟨z, hz, _, _⟩ := DataW.trod_int Tryz.underlying3 h2
      refine ⟨z, ?_⟩
      rw [add_none] at h1
      obtain ⟨_, _, hc⟩ := World.cells?_some h1
      have h0 := hc 0 (by omega)
      rw [add_none] at h0
      simp only [Nat.mul_one, Nat.add_zero] at h0
      rw [h0, hz]
      rfl)
    refine ⟨(List.range len).map L, ⟨by simp [ics], some ⟨b, off, none⟩, m, by simp, by simpa using hl, hm, Or.inr ⟨b, off, rfl, fun j u hu => ?_⟩⟩⟩
    have hj : j < len := by
      have := (List.getElem?_eq_some_iff.1 hu).1
      simpa [ics] using this
    rw [hL j hj]
    simpa [ics, hj] using hu
end
end Go.Proofs.YtgjlhokakcdpbaaGreatDoor

/-
  Drawn numbers, fates and long texts, and the reader opened: the reader alone is turned, and new blocks are laid.
-/
set_option maxRecDepth 100000
namespace Go.Proofs.YtgjlhokakcdpbaaGreatDoor
open Go.ChangeShapes Go.WideShapes Go.ChangeAt Go.RowKit Go.Proofs.Palim

/-- A code that came in: its bytes lie in a block that is there. -/
def Code (w : World) (A : Option Addr) (n c : Nat) : Prop := n ≤ c ∧ n ≤ maxLen ∧ c ≤ maxLen ∧
  (n = 0 ∨ ∃ b off, A = some ⟨b, off, none⟩ ∧ b < w.heap.size ∧ ∀ i, i < n → ∃ x : UInt8, w.cell? ⟨b, off + i, none⟩ = some (.int .u8 (x.toNat : Int)))
theorem Code.below {w w' : World} {A : Option Addr} {n c : Nat} (h : Code w A n c) (hb : Below w.heap.size w w') : Code w' A n c := by
  obtain ⟨h1, h2, h3, h4⟩ := h
  refine ⟨h1, h2, h3, h4.imp id ?_⟩
  rintro ⟨b, off, rfl, hlt, hc⟩
  refine ⟨b, off, rfl, Nat.lt_of_lt_of_le hlt hb.size, fun i hi => ?_⟩
  obtain ⟨x, hx⟩ := hc i hi
  exact ⟨x, (hb.cell hlt).trans hx⟩

def OpenedPost (w : World) (e : Ending) (w' : World) : Prop :=
  e = .returned (.pointer (some ⟨w.heap.size, 0, none⟩)) ∧ Below w.heap.size w w' ∧ Rd w' w.heap.size 0

theorem opened {w : World} {A : Option Addr} {n c : Nat} (hn : n ≤ 2000) (h : n = 0 ∨ ∃ b off, A = some ⟨b, off, none⟩ ∧ b < w.heap.size ∧ ∀ i, i < n → ∃ x : UInt8, w.cell? ⟨b, off + i, none⟩ = some (.int .u8 (x.toNat : Int))) :
    Rd (w.alloc (.cells #[.slice A n c, .int .i64 0] 147)) w.heap.size 0 := by
  refine ⟨A, n, c, heap_alloc_new w _, hn, h.imp id ?_⟩
  rintro ⟨b, off, rfl, hlt, hc⟩
  refine ⟨b, off, rfl, hlt, fun i hi => ?_⟩
  obtain ⟨x, hx⟩ := hc i hi
  exact ⟨x, (World.cell?_alloc_lt w _ _ hlt).trans hx⟩

set_option maxHeartbeats 400000 in
theorem l19Open_any (A : Option Addr) (n c : Nat) (w : World) (h : Code w A n c) :
    Calls Tryz.prog 36 #[.slice A n c] w (OpenedPost w) := by
  obtain ⟨h1, h2, h3, h4⟩ := h
  have H4 := Lib.hid h4
  clear h4
  unfold maxLen at h2 h3
  by_cases hl : 2000 < n
  · go_enter Tryz.func36, Tryz.ntmps36
    go_wp2
    all_goals go_ret
    all_goals refine ⟨rfl, (Below.refl _ _).alloc (Nat.le_refl _) _, opened (by omega) ?_⟩
    all_goals
      right
      obtain ⟨b, off, rfl, hlt, hc⟩ := H4.out.resolve_left (by omega)
      exact ⟨b, off, rfl, hlt, fun i hi => hc i (by omega)⟩
  · go_enter Tryz.func36, Tryz.ntmps36
    go_wp2
    all_goals go_ret
    all_goals exact ⟨rfl, (Below.refl _ _).alloc (Nat.le_refl _) _, opened (by omega) H4.out⟩

theorem below_dr {B : Nat} {a w : World} (h : Below B a w) (n : Nat) : Below B a (w.drewN n) := ⟨h.os, h.tape, h.output, h.size, h.block⟩
theorem below_of_reader {w w1 w2 : World} (hb : Below w.heap.size w w1) (hg : w1.grownBy w2 (some w.heap.size)) : Below w.heap.size w w2 :=
  hb.grown hg hb.size (fun k h => by injection h; omega)

def NumOfL (w : World) (g k : Nat) (zs : List Int) (e : Ending) (w' : World) : Prop :=
  ∃ z q, z ∈ zs ∧ e = .returned (.int .i64 z) ∧ w' = (w.setCell ⟨g, 1, none⟩ (.int .i64 ((k : Int) + 1))).drewN q

set_option maxHeartbeats 400000 in
theorem num_any (g k h L : Nat) (zs : List Int) (t : TypeId) (fr : Nat × Nat) (w : World) (hr : Rd w g k) (hk : k ≤ 1000000) (hh : w.heap[h]? = some (.cells (ics zs).toArray t fr)) (hgh : h ≠ g) (hL : zs.length = L) (hs0 : 0 < L) (hs1 : L ≤ 1000) :
    Calls Tryz.prog 104 #[.pointer (some ⟨g, 0, none⟩), .slice (some ⟨h, 0, none⟩) L L] w (NumOfL w g k zs) := by
  have HR := Lib.hid hr
  have HH := Lib.hid hh
  have HL := Lib.hid hL
  clear hr hh hL
  go_enter Tryz.func104, Tryz.ntmps104
  go_wp2_with fail
  refine (pick_any g k L w HR.out hk (by omega)).mono ?_
  rintro e w1 ⟨r, q, hr, rfl, rfl⟩
  have hr1 : r < zs.length := by have := HL.out; omega
  have hr2 : (r : Int) < (L : Int) := by omega
  have hc : (w.setCell ⟨g, 1, none⟩ (.int .i64 ((k : Int) + 1))).cell? ⟨h, r, none⟩ = some (.int .i64 zs[r]) := by
    rw [World.cell?_setCell_other _ _ _ _ (by intro e; injection e; omega), cell_of_row w h r _ _ _ HH.out]
    simp [ics, hr1]
  clear hr
  go_wp2
  go_ret
  exact ⟨zs[r], q, List.getElem_mem _, rfl, rfl⟩

def ManyPost (w : World) (n : Nat) (e : Ending) (w' : World) : Prop := ∃ t : ByteArray, t.size ≤ n ∧ e = .returned (.string t) ∧ Below w.heap.size w w'

set_option maxHeartbeats 400000 in
/-- A text of one byte, so many times: it is no longer than that. -/
theorem l19Many_any (c : UInt8) (n : Nat) (w : World) (hn : n ≤ 1000) :
    Calls Tryz.prog 106 #[.string ⟨#[c]⟩, .int .i64 (n : Int)] w (ManyPost w n) := by
  go_enter Tryz.func106, Tryz.ntmps106
  go_wp2
  go_loopw [0, 1, 5] (fun s m o wr => ∃ (ss os : ByteArray) (j : Nat), s = .string ss ∧ m = .int .i64 (j : Int) ∧ o = .string os ∧ wr = w ∧ j ≤ 1000 ∧ ss.size ≤ 2000 ∧ os.size ≤ 1000 ∧ Hid (os.size + ss.size * j ≤ n)) (fun _ m _ _ => (intOf m).toNat)
  case atStart => exact ⟨⟨#[c]⟩, ⟨#[]⟩, n, rfl, rfl, rfl, rfl, hn, by show 1 ≤ 2000; omega, Nat.zero_le _, Lib.hid (by show 0 + 1 * n ≤ n; omega)⟩
  case round =>
    obtain ⟨ss, os, j, rfl, rfl, rfl, rfl, hj, hss, hos, HS⟩ := hrel
    by_cases hj0 : j = 0
    · subst hj0
      go_wp2
      go_ret
      exact ⟨os, by have := HS.out; omega, rfl, Below.refl _ _⟩
    · have hpos : (0 : Int) < (j : Int) := by omega
      have hss1 : ss.size ≤ 1000 := by
        have h1 := HS.out
        have h2 : ss.size * 1 ≤ ss.size * j := Nat.mul_le_mul_left _ (by omega)
        omega
      have HD := Lib.hid (show (ss ++ ss).size = ss.size + ss.size from ByteArray.size_append)
      have HO := Lib.hid (show (os ++ ss).size = os.size + ss.size from ByteArray.size_append)
      have HQ := Lib.hid (show Value.int .i64 ((j : Int) / 2) = .int .i64 ((j / 2 : Nat) : Int) from by congr 1)
      by_cases hodd : j % 2 = 1
      · have hm : (j : Int).tmod 2 = 1 := by rw [Int.tmod_eq_emod_of_nonneg (by omega)]; omega
        have HS2 := Lib.hid (show (os ++ ss).size + (ss ++ ss).size * (j / 2) ≤ n from by
          have h1 := HS.out
          rw [HD.out, HO.out]
          have h2 : ss.size * j = ss.size * (2 * (j / 2) + 1) := by congr 1; omega
          rw [Nat.mul_add, Nat.mul_one, ← Nat.mul_assoc] at h2
          rw [show ss.size + ss.size = ss.size * 2 by omega]
          omega)
        go_wp2
        go_roundw
        case rel => exact ⟨ss ++ ss, os ++ ss, j / 2, by first | rfl | trivial, by first | exact HQ.out | (simp; done) | go_num, by first | rfl | trivial, by first | rfl | trivial, by omega, by rw [HD.out]; omega, by have h1 := HS.out; have h2 : ss.size * 1 ≤ ss.size * j := Nat.mul_le_mul_left _ (by omega); rw [HO.out]; omega, HS2⟩
        case measure => simp [intOf]; omega
      · have hm : (j : Int).tmod 2 = 0 := by rw [Int.tmod_eq_emod_of_nonneg (by omega)]; omega
        have HS2 := Lib.hid (show os.size + (ss ++ ss).size * (j / 2) ≤ n from by
          have h1 := HS.out
          rw [HD.out]
          have h2 : ss.size * j = ss.size * (2 * (j / 2)) := by congr 1; omega
          rw [← Nat.mul_assoc] at h2
          rw [show ss.size + ss.size = ss.size * 2 by omega]
          omega)
        go_wp2
        go_roundw
        case rel => exact ⟨ss ++ ss, os, j / 2, by first | rfl | trivial, by first | exact HQ.out | (simp; done) | go_num, by first | rfl | trivial, by first | rfl | trivial, by omega, by rw [HD.out]; omega, hos, HS2⟩
        case measure => simp [intOf]; omega

def FatePost (w : World) (g k : Nat) (e : Ending) (w' : World) : Prop :=
  ∃ (fs : List Int) (v : Value) (k' : Nat), fs.length ≤ 15 ∧ k' ≤ k + 16 ∧ e = .returned v ∧ w'.ownsRow w.heap.size 3 1 v fs.length (ics fs) ∧ w.grownBy w' (some g) ∧ Rd w' g k'

end Go.Proofs.YtgjlhokakcdpbaaGreatDoor

/-
  The reader's calls seen from outside: the reader alone is turned.
-/
set_option maxRecDepth 100000
namespace Go.Proofs.YtgjlhokakcdpbaaGreatDoor
open Go.ChangeShapes Go.WideShapes Go.ChangeAt Go.RowKit Go.Proofs.Palim

theorem pickO (g k m : Nat) (w : World) (hr : Rd w g k) (hk : k ≤ 1000000) (hm : m ≤ 2147483647) (hm0 : 0 < m) :
    Calls Tryz.prog 101 #[.pointer (some ⟨g, 0, none⟩), .int .i64 (m : Int)] w fun e w' => ∃ r : Nat, r < m ∧ e = .returned (.int .i64 (r : Int)) ∧ w.grownBy w' (some g) ∧ Rd w' g (k + 1) := by
  refine (pick_any g k m w hr hk hm).mono ?_
  rintro e w' ⟨r, q, h, rfl, rfl⟩
  exact ⟨r, by omega, rfl, grown_pick (World.grownBy.refl w (some g)) _ q, hr.next q⟩
theorem numO (g k h L : Nat) (zs : List Int) (t : TypeId) (fr : Nat × Nat) (w : World) (hr : Rd w g k) (hk : k ≤ 1000000) (hh : w.heap[h]? = some (.cells (ics zs).toArray t fr)) (hgh : h ≠ g) (hL : zs.length = L) (hs0 : 0 < L) (hs1 : L ≤ 1000) :
    Calls Tryz.prog 104 #[.pointer (some ⟨g, 0, none⟩), .slice (some ⟨h, 0, none⟩) L L] w fun e w' => ∃ z : Int, z ∈ zs ∧ e = .returned (.int .i64 z) ∧ w.grownBy w' (some g) ∧ Rd w' g (k + 1) := by
  refine (num_any g k h L zs t fr w hr hk hh hgh hL hs0 hs1).mono ?_
  rintro e w' ⟨z, q, hz, rfl, rfl⟩
  exact ⟨z, hz, rfl, grown_pick (World.grownBy.refl w (some g)) _ q, hr.next q⟩
theorem ofO (g k h L : Nat) (ss : List ByteArray) (t : TypeId) (fr : Nat × Nat) (w : World) (hr : Rd w g k) (hk : k ≤ 1000000) (hh : w.heap[h]? = some (.cells (scs ss).toArray t fr)) (hgh : h ≠ g) (hL : ss.length = L) (hs0 : 0 < L) (hs1 : L ≤ 1000) :
    Calls Tryz.prog 105 #[.pointer (some ⟨g, 0, none⟩), .slice (some ⟨h, 0, none⟩) L L] w fun e w' => ∃ s : ByteArray, s ∈ ss ∧ e = .returned (.string s) ∧ w.grownBy w' (some g) ∧ Rd w' g (k + 1) := by
  refine (of_any g k h L ss t fr w hr hk hh hgh hL hs0 hs1).mono ?_
  rintro e w' ⟨s, q, hs, rfl, rfl⟩
  exact ⟨s, hs, rfl, grown_pick (World.grownBy.refl w (some g)) _ q, hr.next q⟩
theorem box_grownR {w w' : World} {b g : Nat} {vs : List Value} (h : Box w b vs) (hg : w.grownBy w' (some g)) (hb : b ≠ g) : Box w' b vs := h.kept (hg.block b h.lt (fun e => hb (Option.some.inj e)))
theorem grownR_trans {a b c : World} {g : Nat} (h : a.grownBy b (some g)) (k : b.grownBy c (some g)) : a.grownBy c (some g) :=
  ⟨k.os.trans h.os, k.tape.trans h.tape, k.output.trans h.output, Nat.le_trans h.size k.size, fun i hi hne => (k.block i (Nat.lt_of_lt_of_le hi h.size) hne).trans (h.block i hi hne)⟩
theorem grownR_below {a b c : World} {g : Nat} (h : a.grownBy b (some g)) (k : Below a.heap.size b c) : a.grownBy c (some g) :=
  ⟨k.os.trans h.os, k.tape.trans h.tape, k.output.trans h.output, Nat.le_trans h.size k.size, fun i hi hne => (k.block i hi).trans (h.block i hi hne)⟩
theorem Rd.belowR {w w' : World} {g k : Nat} (h : Rd w g k) (hb : Below w.heap.size w w') : Rd w' g k := h.kept fun b hb' => hb.block b (by have := h.lt; omega)
theorem grownR_set {a b : World} {g x : Nat} (h : a.grownBy b (some g)) (hx : a.heap.size ≤ x) (j : Nat) (u : Value) : a.grownBy (b.setCell ⟨x, j, none⟩ u) (some g) :=
  ⟨h.os, h.tape, h.output, by simpa [World.setCell] using h.size, fun i hi hne => (Below.heap_setCell b _ u i (by simp; omega)).trans (h.block i hi hne)⟩
theorem Rd.setR {w : World} {g k x : Nat} (h : Rd w g k) (hx : g < x) (j : Nat) (u : Value) : Rd (w.setCell ⟨x, j, none⟩ u) g k := h.kept fun b hb' => Below.heap_setCell w _ u b (by simp; omega)
end Go.Proofs.YtgjlhokakcdpbaaGreatDoor
