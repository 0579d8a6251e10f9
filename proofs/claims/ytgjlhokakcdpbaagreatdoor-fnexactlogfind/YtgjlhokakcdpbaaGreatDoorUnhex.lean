/-
  The two functions that read bytes in hexadecimals.
-/
import Derived.Test.YtgjlhokakcdpbaaGreatDoorRows
import Derived.Test.YtgjlhokakcdpbaaGreatDoorBase
import Derived.Test.YtgjlhokakcdpbaaGreatDoorTexts
import Derived.WalkKit
import Derived.ProofKit
import Derived.Lib.Hide
import Derived.WalkSpells
import Derived.Defers
import Derived.Recover
import Derived.Laws.Rows
import Derived.WalkSmall
import Derived.Deep.RegionHeld3
import Derived.Deep.AppendLies
set_option maxRecDepth 100000
namespace Go.Proofs.YtgjlhokakcdpbaaGreatDoor
open Go.ChangeShapes Go.WideShapes Go.ChangeAt Go.RowKit Go.Proofs.Palim

theorem all16 (P : Nat → Prop) (h0 : P 0) (h1 : P 1) (h2 : P 2) (h3 : P 3) (h4 : P 4) (h5 : P 5) (h6 : P 6) (h7 : P 7) (h8 : P 8) (h9 : P 9) (h10 : P 10) (h11 : P 11) (h12 : P 12) (h13 : P 13) (h14 : P 14) (h15 : P 15) : ∀ k, k < 16 → P k
  | 0, _ => h0 | 1, _ => h1 | 2, _ => h2 | 3, _ => h3 | 4, _ => h4 | 5, _ => h5 | 6, _ => h6 | 7, _ => h7 | 8, _ => h8 | 9, _ => h9 | 10, _ => h10 | 11, _ => h11 | 12, _ => h12 | 13, _ => h13 | 14, _ => h14 | 15, _ => h15
  | _ + 16, h => absurd h (by omega)

def hexCells : Array Value := #[.int .u8 48, .int .u8 49, .int .u8 50, .int .u8 51, .int .u8 52, .int .u8 53, .int .u8 54, .int .u8 55, .int .u8 56, .int .u8 57, .int .u8 97, .int .u8 98, .int .u8 99, .int .u8 100, .int .u8 101, .int .u8 102]
/-- The table of digits lies in its block. -/
def HasTab (w : World) : Prop := ∃ t fr, w.heap[4]? = some (.cells hexCells t fr)
theorem HasTab.lt {w : World} (h : HasTab w) : 4 < w.heap.size := by
  obtain ⟨t, fr, h⟩ := h
  exact (Array.getElem?_eq_some_iff.1 h).1
theorem HasTab.below {w w' : World} (h : HasTab w) {B : Nat} (hb : Below B w w') (hB : 4 < B) : HasTab w' := by
  obtain ⟨t, fr, h⟩ := h
  exact ⟨t, fr, by rw [hb.block _ hB]; exact h⟩
theorem HasTab.cell {w : World} (h : HasTab w) : ∀ i, i < 16 → w.cell? ⟨4, i, none⟩ = some (.int .u8 ((hexD i).toNat : Int)) := by
  obtain ⟨t, fr, h⟩ := h
  intro i hi
  rw [cell_of_row w _ i hexCells t fr h]
  exact all16 (fun i => hexCells[i]? = some (.int .u8 ((hexD i).toNat : Int))) rfl rfl rfl rfl rfl rfl rfl rfl rfl rfl rfl rfl rfl rfl rfl rfl i hi

theorem idx_ok (k : Nat) (h : k < 16) (w : World) : (Instr.index 284 (.agg hexCells) (.int .i64 (k : Int))).run Tryz.prog w = .ok (.int .u8 ((hexD k).toNat : Int)) w :=
  all16 (fun k => (Instr.index 284 (.agg hexCells) (.int .i64 (k : Int))).run Tryz.prog w = .ok (.int .u8 ((hexD k).toNat : Int)) w)
    (by kernel_rfl) (by kernel_rfl) (by kernel_rfl) (by kernel_rfl) (by kernel_rfl) (by kernel_rfl) (by kernel_rfl) (by kernel_rfl)
    (by kernel_rfl) (by kernel_rfl) (by kernel_rfl) (by kernel_rfl) (by kernel_rfl) (by kernel_rfl) (by kernel_rfl) (by kernel_rfl) k h
theorem tabSize : (Tryz.prog.info? 284).map (·.size) = some hexCells.size := by kernel_rfl

theorem u8_ne {a b : UInt8} (h : a ≠ b) : (((a.toNat : Int) == (b.toNat : Int)) = false) := by
  simp only [beq_eq_false_iff_ne, ne_eq]
  intro e
  exact h (UInt8.toNat_inj.1 (by omega))

set_option maxHeartbeats 400000 in
theorem sumDigit_ok (c : UInt8) (v : Nat) (w : World) (hv : v < 16) (hc : hexD v = c) (hg : HasTab w) :
    Calls Tryz.prog 225 #[.int .u8 (c.toNat : Int)] w fun e w' => e = .returned (.int .u8 (v : Int)) ∧ w = w' := by
  obtain ⟨t, fr, hheap⟩ := hg
  have HC := Lib.hid hc
  have HH := Lib.hid hheap
  clear hc hheap
  go_enter Tryz.func225, Tryz.ntmps225
  go_wp2_with (refine wpList_load_row rfl 284 (.global 4) rfl 4 rfl t hexCells fr _ HH.out Tryz.underlying284 rfl tabSize ?_)
  go_loop [3, 4, 6] (fun _ _ i => ∃ k : Nat, k ≤ v ∧ i = .int .i64 k) (fun _ _ i => 16 - (intOf i).toNat)
  case atStart => exact ⟨0, Nat.zero_le _, rfl⟩
  case round =>
    obtain ⟨k, hk, rfl⟩ := hrel
    have hix := idx_ok k (by omega) w
    by_cases hlt : k = v
    · subst hlt
      have hcc : (((hexD k).toNat : Int) == (c.toNat : Int)) = true := by rw [HC.out]; simp
      go_wp2
      go_ret
      exact ⟨ret_int rfl, rfl⟩
    · have hcc : (((hexD k).toNat : Int) == (c.toNat : Int)) = false := by
        rw [← HC.out]; exact u8_ne fun e => hlt (hexD_inj k (by omega) v hv e)
      go_wp2
      go_round
      case rel => exact ⟨k + 1, by omega, by go_num⟩
      case measure => simp [intOf]; omega

/-- What the readers of digits panic with. -/
def malformed : List PanicEntry := [{ v := .iface 9 (.string ⟨#[109, 97, 108, 102, 111, 114, 109, 101, 100, 32, 116, 101, 120, 116]⟩), recovered := false }]

set_option maxHeartbeats 400000 in
theorem sumDigit_bad (c : UInt8) (w : World) (hc : ∀ v, v < 16 → hexD v ≠ c) (hg : HasTab w) :
    Calls Tryz.prog 225 #[.int .u8 (c.toNat : Int)] w fun e w' => e = .panicked malformed ∧ w = w' := by
  obtain ⟨t, fr, hheap⟩ := hg
  have HC := Lib.hid hc
  have HH := Lib.hid hheap
  clear hc hheap
  go_enter Tryz.func225, Tryz.ntmps225
  go_wp2_with (refine wpList_load_row rfl 284 (.global 4) rfl 4 rfl t hexCells fr _ HH.out Tryz.underlying284 rfl tabSize ?_)
  go_loop [3, 4, 6] (fun _ _ i => ∃ k : Nat, k ≤ 16 ∧ i = .int .i64 k) (fun _ _ i => 16 - (intOf i).toNat)
  case atStart => exact ⟨0, Nat.zero_le _, rfl⟩
  case round =>
    obtain ⟨k, hk, rfl⟩ := hrel
    by_cases hlt : k < 16
    · have hix := idx_ok k hlt w
      have hcc : (((hexD k).toNat : Int) == (c.toNat : Int)) = false := u8_ne (HC.out k hlt)
      go_wp2
      go_round
      case rel => exact ⟨k + 1, by omega, by go_num⟩
      case measure => simp [intOf]; omega
    · go_wp2
      exact ⟨rfl, rfl, rfl⟩

set_option maxHeartbeats 400000 in
theorem l19Find_hit (s : ByteArray) (c : UInt8) (v : Nat) (w : World) (hs : s.size ≤ maxLen) (hv : v < s.size) (hc : s[v] = c) (hn : ∀ j (h : j < s.size), j < v → s[j] ≠ c) :
    Calls Tryz.prog 120 #[.string s, .int .u8 (c.toNat : Int)] w fun e w' => e = .returned (.int .i64 (v : Int)) ∧ w = w' := by
  unfold maxLen at hs
  have HC := Lib.hid hc
  have HN := Lib.hid hn
  clear hc hn
  go_enter Tryz.func120, Tryz.ntmps120
  go_wp2
  go_loop [5] (fun i => ∃ k : Nat, k ≤ v ∧ i = .int .i64 k) (fun i => s.size - (intOf i).toNat)
  case atStart => exact ⟨0, Nat.zero_le _, rfl⟩
  case round =>
    obtain ⟨k, hk, rfl⟩ := hrel
    have hlt : k < s.size := by omega
    by_cases he : k = v
    · subst he
      have hcc : ((s[k].toNat : Int) == (c.toNat : Int)) = true := by rw [HC.out]; simp
      go_wp2
      go_ret
      exact ⟨ret_int rfl, rfl⟩
    · have hcc : ((s[k].toNat : Int) == (c.toNat : Int)) = false := u8_ne (HN.out k hlt (by omega))
      go_wp2
      go_round
      case rel => exact ⟨k + 1, by omega, by go_num⟩
      case measure => simp [intOf]; omega

set_option maxHeartbeats 400000 in
theorem l19Find_miss (s : ByteArray) (c : UInt8) (w : World) (hs : s.size ≤ maxLen) (hn : ∀ j (h : j < s.size), s[j] ≠ c) :
    Calls Tryz.prog 120 #[.string s, .int .u8 (c.toNat : Int)] w fun e w' => e = .returned (.int .i64 (-1)) ∧ w = w' := by
  unfold maxLen at hs
  have HN := Lib.hid hn
  clear hn
  go_enter Tryz.func120, Tryz.ntmps120
  go_wp2
  go_loop [5] (fun i => ∃ k : Nat, k ≤ s.size ∧ i = .int .i64 k) (fun i => s.size - (intOf i).toNat)
  case atStart => exact ⟨0, Nat.zero_le _, rfl⟩
  case round =>
    obtain ⟨k, hk, rfl⟩ := hrel
    by_cases hlt : k < s.size
    · have hcc : ((s[k].toNat : Int) == (c.toNat : Int)) = false := u8_ne (HN.out k hlt)
      go_wp2
      go_round
      case rel => exact ⟨k + 1, by omega, by go_num⟩
      case measure => simp [intOf]; omega
    · go_wp2
      go_ret
      exact ⟨rfl, rfl⟩
end Go.Proofs.YtgjlhokakcdpbaaGreatDoor
