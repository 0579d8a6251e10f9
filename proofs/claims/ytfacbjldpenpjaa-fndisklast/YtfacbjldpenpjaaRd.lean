/-
  The reader of codes from which the laws' inputs are drawn: it picks numbers below a bound, and turns nothing but itself.
-/
import Derived.Test.YtfacbjldpenpjaaRows
import Derived.Test.YtfacbjldpenpjaaSum
import Derived.Test.YtfacbjldpenpjaaPickMath
import Derived.WalkKit
import Derived.ProofKit
import Derived.Lib.Hide
import Derived.WalkSpells
import Derived.WalkSmall
import Derived.Laws.Pointers
import Derived.Deep.QuietTactic
import Derived.BigQuiet
import Derived.Deep.Draws
namespace Go.Proofs.Ytfacbjldpenpjaa
open Go.ChangeShapes Go.WideShapes Go.ChangeAt Go.RowKit Go.Proofs.Palim

/-- A reader lies in block g; it has picked k times. -/
def Rd (w : World) (g k : Nat) : Prop := ∃ (A : Option Addr) (n c : Nat), w.heap[g]? = some (.cells #[.slice A n c, .int .i64 (k : Int)] 91 (0, 0)) ∧ n ≤ 2000 ∧
  (n = 0 ∨ ∃ b off, A = some ⟨b, off, none⟩ ∧ b < g ∧ ∀ i, i < n → ∃ x : UInt8, w.cell? ⟨b, off + i, none⟩ = some (.int .u8 (x.toNat : Int)))
theorem Rd.lt {w : World} {g k : Nat} (h : Rd w g k) : g < w.heap.size := by
  obtain ⟨A, n, c, h, _⟩ := h
  exact (Array.getElem?_eq_some_iff.1 h).1
/-- One more pick. -/
theorem Rd.next {w : World} {g k : Nat} (h : Rd w g k) (q : Nat) : Rd ((w.setCell ⟨g, 1, none⟩ (.int .i64 ((k : Int) + 1))).drewN q) g (k + 1) := by
  obtain ⟨A, n, c, h, hn, hr⟩ := h
  refine ⟨A, n, c, ?_, hn, ?_⟩
  · show (w.setCell ⟨g, 1, none⟩ (.int .i64 ((k : Int) + 1))).heap[g]? = _
    simp [World.setCell, Array.getElem?_modify, h]
  · refine hr.imp id ?_
    rintro ⟨b, off, rfl, hb, hc⟩
    refine ⟨b, off, rfl, hb, fun i hi => ?_⟩
    obtain ⟨x, hx⟩ := hc i hi
    refine ⟨x, ?_⟩
    show (w.setCell ⟨g, 1, none⟩ (.int .i64 ((k : Int) + 1))).cell? _ = _
    rw [World.cell?_setCell_other _ _ _ _ (by intro e; injection e; omega)]
    exact hx

def PickPost (w : World) (g k m : Nat) (e : Ending) (w' : World) : Prop :=
  ∃ r q : Nat, (r < m ∨ m = 0 ∧ r = 0) ∧ e = .returned (.int .i64 (r : Int)) ∧ w' = (w.setCell ⟨g, 1, none⟩ (.int .i64 ((k : Int) + 1))).drewN q

set_option maxHeartbeats 1000000 in
theorem pick_any (g k m : Nat) (w : World) (hr : Rd w g k) (hk : k ≤ 1000000) (hm : m ≤ 2147483647) :
    Calls Try.prog 28 #[.pointer (some ⟨g, 0, none⟩), .int .i64 (m : Int)] w (PickPost w g k m) := by
  obtain ⟨A, n, c, hh, hn, hrd⟩ := hr
  have c0 : w.cell? ⟨g, 0, none⟩ = some (.slice A n c) := cell_of_row w g 0 _ _ _ hh
  have c1 : w.cell? ⟨g, 1, none⟩ = some (.int .i64 (k : Int)) := cell_of_row w g 1 _ _ _ hh
  have f1 : w.frozen? ⟨g, 1, none⟩ = false := by simp [World.frozen?, hh]
  clear hh
  by_cases hz : m < 1
  · go_enter Try.func28, Try.ntmps28
    go_wp2
    go_ret
    exact ⟨0, 0, by omega, rfl, rfl⟩
  by_cases hn0 : n = 0
  · subst hn0
    go_enter Try.func28, Try.ntmps28
    go_wp2
    all_goals go_ret
    all_goals exact ⟨0, 0, by omega, rfl, rfl⟩
  obtain ⟨b, off, rfl, hb, hc⟩ := hrd.resolve_left hn0
  have hz0 : ((n : Int) == 0) = false := by simpa using hn0
  by_cases hkn : k < n
  · obtain ⟨x, hx⟩ := hc k hkn
    have hxb := x.toNat_lt
    have hx' : (w.setCell ⟨g, 1, none⟩ (.int .i64 ((k : Int) + 1))).cell? ⟨b, off + k, none⟩ = some (.int .u8 (x.toNat : Int)) := by
      rw [World.cell?_setCell_other _ _ _ _ (by intro e; injection e; omega)]; exact hx
    clear hx hc hrd
    go_enter Try.func28, Try.ntmps28
    go_wp2
    go_ret
    exact ⟨x.toNat % m, 0, Or.inl (Nat.mod_lt _ (by omega)), ret_int (by omega), rfl⟩
  · obtain ⟨i1, HI1⟩ : ∃ i, Hid (i = k % n) := ⟨_, Lib.hid rfl⟩
    obtain ⟨i2, HI2⟩ : ∃ i, Hid (i = (k * 7 + 3) % n) := ⟨_, Lib.hid rfl⟩
    have hi1 : i1 < n := by rw [HI1.out]; exact Nat.mod_lt _ (by omega)
    have hi2 : i2 < n := by rw [HI2.out]; exact Nat.mod_lt _ (by omega)
    obtain ⟨x, hx⟩ := hc i1 hi1
    obtain ⟨y, hy⟩ := hc i2 hi2
    have hxb := x.toNat_lt
    have hyb := y.toNat_lt
    have hx' : (w.setCell ⟨g, 1, none⟩ (.int .i64 ((k : Int) + 1))).cell? ⟨b, off + i1, none⟩ = some (.int .u8 (x.toNat : Int)) := by
      rw [World.cell?_setCell_other _ _ _ _ (by intro e; injection e; omega)]; exact hx
    have hy' : (w.setCell ⟨g, 1, none⟩ (.int .i64 ((k : Int) + 1))).cell? ⟨b, off + i2, none⟩ = some (.int .u8 (y.toNat : Int)) := by
      rw [World.cell?_setCell_other _ _ _ _ (by intro e; injection e; omega)]; exact hy
    clear hx hy hc hrd
    have e1 : (k : Int).tmod (n : Int) = (i1 : Int) := by rw [HI1.out]; rfl
    have e2 : IntKind.i64.wrap (i1 : Int) = (i1 : Int) := IntWalk.i64_in _ (by omega)
    have e3 : IntKind.i64.wrap ((k : Int) * 7) = (k : Int) * 7 := IntWalk.i64_in _ (by omega)
    have e4 : IntKind.i64.wrap ((k : Int) * 7 + 3) = (k : Int) * 7 + 3 := IntWalk.i64_in _ (by omega)
    have e5 : ((k : Int) * 7 + 3).tmod (n : Int) = (i2 : Int) := by rw [HI2.out]; rfl
    have e6 : IntKind.i64.wrap (i2 : Int) = (i2 : Int) := IntWalk.i64_in _ (by omega)
    have e7 : (i1 : Int) < (n : Int) := by omega
    have e8 : (i2 : Int) < (n : Int) := by omega
    go_enter Try.func28, Try.ntmps28
    go_wp2_with fail
    go_quiet (fail)
    go_wp2
    go_ret
    obtain ⟨r, hr1, hr2⟩ := pick_val x y k n m hk (by omega)
    exact ⟨r, nq, Or.inl hr1, ret_int hr2, rfl⟩
end Go.Proofs.Ytfacbjldpenpjaa
