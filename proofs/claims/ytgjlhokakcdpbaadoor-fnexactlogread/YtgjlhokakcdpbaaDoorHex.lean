/-
  The two functions that write bytes in hexadecimals return the same text.
-/
import Derived.Test.YtgjlhokakcdpbaaDoorRows
import Derived.Test.YtgjlhokakcdpbaaDoorSum
import Derived.Test.YtgjlhokakcdpbaaDoorBytes
import Derived.Test.YtgjlhokakcdpbaaDoorHexMath
import Derived.WalkKit
import Derived.ProofKit
import Derived.Lib.Hide
import Derived.WalkSpells
import Derived.Deep.RegionHeld3
import Derived.Deep.AppendLies
set_option maxRecDepth 100000
namespace Go.Proofs.YtgjlhokakcdpbaaDoor
open Go.ChangeShapes Go.WideShapes Go.ChangeAt Go.RowKit Go.Proofs.Palim

theorem infoU8 : (Tryd.prog.info? 5).map (fun i => (i.zero, i.size, i.bytes)) = some (some (.int .u8 0), 1, 1) := by kernel_rfl

set_option maxHeartbeats 400000 in
theorem implSumHex_any (s : ByteArray) (w : World) (hs : s.size ≤ 1048576) (hg : ∀ i, i < 16 → w.cell? ⟨4, i, none⟩ = some (.int .u8 ((hexD i).toNat : Int))) :
    Calls Tryd.prog 117 #[.string s] w fun e w' => e = .returned (.string ⟨(hexOf s.data.toList).toArray⟩) ∧ Below w.heap.size w w' := by
  obtain ⟨i0, hi, hz0, hz1, hz2⟩ := info_parts infoU8
  go_enter Tryd.func117, Tryd.ntmps117
  go_wp2_with (first | (at_make; refine wpList_make_own _ rfl _ _ 55 rfl w.heap.size 5 i0 (.int .u8 0) 1 Tryd.underlying55 hi hz0 hz1 _ _ _ (2 * s.size) rfl rfl (by omega) (by rw [hz2]; omega) (by unfold maxLen; omega) (Nat.le_refl _) ?_))
  intro w1 hown hgrow
  go_wp2
  go_loopw [3, 4, 11] (fun v _ i wr => ∃ k : Nat, k ≤ s.size ∧ i = .int .i64 k ∧ wr.ownsRow w.heap.size 5 1 v (2 * k) (bcs (hexOf (s.data.toList.take k))) ∧ Below w.heap.size w wr) (fun _ _ i _ => s.size - (intOf i).toNat)
  case atStart => exact ⟨0, Nat.zero_le _, rfl, hown, (Below.refl _ _).grown hgrow (Nat.le_refl _) (fun _ h => by cases h)⟩
  case round =>
    obtain ⟨k, hk, rfl, hown, hb⟩ := hrel
    by_cases hlt : k < s.size
    · have hcb := s[k].toNat_lt
      have hgr : ∀ i, i < 16 → wr.cell? ⟨4, i, none⟩ = some (.int .u8 ((hexD i).toNat : Int)) := fun i hi => (hb.cell (World.block_lt_of_cell? _ _ (hg i hi))).trans (hg i hi)
      obtain ⟨q, HQ⟩ : ∃ q, Hid (q = s[k].toNat / 16) := ⟨_, Lib.hid rfl⟩
      obtain ⟨r, HR⟩ : ∃ r, Hid (r = s[k].toNat % 16) := ⟨_, Lib.hid rfl⟩
      have hq : (s[k].toNat : Int) / 16 = (q : Int) := by rw [HQ.out]; omega
      have hr : bits .and .u8 (s[k].toNat : Int) 15 = (r : Int) := by rw [HR.out]; exact and15 _
      have hq0 : (0 : Int) ≤ (q : Int) := Int.natCast_nonneg _
      have hr0 : (0 : Int) ≤ (r : Int) := Int.natCast_nonneg _
      have hq1 : (q : Int) < 16 := by have := HQ.out; omega
      have hr1 : (r : Int) < 16 := by have := HR.out; omega
      have h1 := hgr q (by omega)
      have h2 := hgr r (by omega)
      clear hgr
      have lg := World.block_lt_of_cell? _ _ (hg 0 (by omega))
      have ag : u3.ownBlock ≠ some 4 := by
        intro h; have := (hown.lt _ h).1; simp at lg; omega
      have lg' : 4 < wr.heap.size := by have := hb.size; simp at lg; omega
      clear lg
      have hk1 : (k : Int) < (s.size : Int) := by omega
      have hn1 : 2 * k + 2 ≤ maxLen := by unfold maxLen; omega
      go_wp2_with fail
      go_region_held3 (fun w' => w'.cell? ⟨4, q, none⟩ = some (.int .u8 ((hexD q).toNat : Int)) ∧ w'.cell? ⟨4, r, none⟩ = some (.int .u8 ((hexD r).toNat : Int)))
        (first
          | go_keep
          | (go_split_ands
             refine ⟨?_, ?_⟩
             · (rw [hgrow1.cell_far _ (by simp <;> omega) (Ne.symm ag)]; assumption)
             · (rw [hgrow1.cell_far _ (by simp <;> omega) (Ne.symm ag)]; assumption)))
        ((refine step_append_lies _ (by rfl) _ _ _ (by rfl) w.heap.size 5 i0 _ 1 1 Tryd.underlying55 hi hz0 hz1 hz2 rfl (by omega) u3 (2 * k) _ (by rfl) ((hown.alloc _).drew)
            ⟨wr.heap.size, 0, none⟩ 2 2 (bcs [hexD q, hexD r]) (by rfl) (by rfl) (World.news_of_block (cs := (bcs [hexD q, hexD r]).toArray) (t := 5) (fr := (0, 0)) (heap_alloc_new wr _)) (bcs_one _)
            (by omega) hn1 (by omega) (by have := hb.size; simp; omega) (wr.heap.size + 1) (by simp) ?_; intro gg cap w2 hown1 hgrow1 hat hglt))
      all_goals
        have R : w2.ownsRow w.heap.size 5 1 (.slice (some ⟨gg, 0, none⟩) (2 * k + 2) cap) (2 * (k + 1)) (bcs (hexOf (s.data.toList.take (k + 1)))) := by
          rw [take_snoc s k hlt, hexOf_snoc, bcs_append, ← HQ.out, ← HR.out]; exact hown1
        have RB : Below w.heap.size w w2 := (hb.alloc hb.size _).drew.grown hgrow1 (by have := hb.size; simp; omega) (fun g h => (hown.lt g h).1)
        clear hown1 hgrow1 hown hb h1 h2 hq hr
        go_wp2
        go_roundw
        case rel => exact ⟨k + 1, by omega, by go_num, R, RB⟩
        case measure => simp [intOf]; omega
    · have hconv := run_convert_own (P := Tryd.prog) 55 9 Tryd.underlying55 Tryd.underlying5 Tryd.underlying9 hown
      go_wp2
      go_ret
      refine ⟨?_, hb⟩
      rw [List.take_of_length_le (by simp; omega)]
      rfl

set_option maxHeartbeats 400000 in
theorem l1Digit_any (n : Nat) (w : World) (h : n < 16) :
    Calls Tryd.prog 28 #[.int .i64 (n : Int)] w fun e w' => e = .returned (.int .u8 ((hexD n).toNat : Int)) ∧ w = w' := by
  go_enter Tryd.func28, Tryd.ntmps28
  go_wp2
  go_ret
  refine ⟨ret_int ?_, rfl⟩
  rw [hexStr n h]

set_option maxHeartbeats 400000 in
theorem specSumHex_any (s : ByteArray) (w : World) (hs : s.size ≤ 1048576) :
    Calls Tryd.prog 14 #[.string s] w fun e w' => e = .returned (.string ⟨(hexOf s.data.toList).toArray⟩) ∧ Below w.heap.size w w' := by
  obtain ⟨i0, hi, hz0, hz1, hz2⟩ := info_parts infoU8
  go_enter Tryd.func14, Tryd.ntmps14
  go_wp2
  go_loopw [3, 4] (fun v i wr => ∃ k : Nat, k ≤ s.size ∧ i = .int .i64 k ∧ wr.ownsRow w.heap.size 5 1 v (2 * k) (bcs (hexOf (s.data.toList.take k))) ∧ Below w.heap.size w wr) (fun _ i _ => s.size - (intOf i).toNat)
  case atStart => exact ⟨0, Nat.zero_le _, rfl, World.ownsRow_made w #[] 0 (Nat.le_refl _) (by unfold maxLen; omega) rfl, (Below.refl _ _).alloc (Nat.le_refl _) _⟩
  case round =>
    obtain ⟨k, hk, rfl, hown, hb⟩ := hrel
    by_cases hlt : k < s.size
    · have hcb := s[k].toNat_lt
      obtain ⟨q, HQ⟩ : ∃ q, Hid (q = s[k].toNat / 16) := ⟨_, Lib.hid rfl⟩
      obtain ⟨r, HR⟩ : ∃ r, Hid (r = s[k].toNat % 16) := ⟨_, Lib.hid rfl⟩
      have hq : (s[k].toNat : Int).tdiv 16 = (q : Int) := by rw [HQ.out]; rfl
      have hr : (s[k].toNat : Int).tmod 16 = (r : Int) := by rw [HR.out]; rfl
      have hq1 : q < 16 := by have := HQ.out; omega
      have hr1 : r < 16 := by have := HR.out; omega
      have hw1 : IntKind.i64.wrap (s[k].toNat : Int) = (s[k].toNat : Int) := IntWalk.i64_in _ (by omega)
      have hw2 : IntKind.i64.wrap (q : Int) = (q : Int) := IntWalk.i64_in _ (by omega)
      have hw3 : IntKind.i64.wrap (r : Int) = (r : Int) := IntWalk.i64_in _ (by omega)
      have hk1 : (k : Int) < (s.size : Int) := by omega
      have hn1 : 2 * k + 2 ≤ maxLen := by unfold maxLen; omega
      go_wp2_with fail
      go_region_held3 (fun _ => True)
        (exact trivial)
        (first
          | (go_at_call 28; ((with_reducible refine (l1Digit_any _ _ (by assumption)).mono ?_); rintro e w' ⟨rfl, rfl⟩))
          | (refine step_append_lies _ (by rfl) _ _ _ (by rfl) w.heap.size 5 i0 _ 1 1 Tryd.underlying55 hi hz0 hz1 hz2 rfl (by omega) u3 (2 * k) _ (by rfl) ((hown.alloc _).drew)
              ⟨wr.heap.size, 0, none⟩ 2 2 (bcs [hexD q, hexD r]) (by rfl) (by rfl) (World.news_of_block (cs := (bcs [hexD q, hexD r]).toArray) (t := 5) (fr := (0, 0)) (heap_alloc_new wr _)) (bcs_one _)
              (by omega) hn1 (by omega) (by have := hb.size; simp; omega) (wr.heap.size + 1) (by simp) ?_; intro gg cap w2 hown1 hgrow1 hat hglt))
      all_goals
        have R : w2.ownsRow w.heap.size 5 1 (.slice (some ⟨gg, 0, none⟩) (2 * k + 2) cap) (2 * (k + 1)) (bcs (hexOf (s.data.toList.take (k + 1)))) := by
          rw [take_snoc s k hlt, hexOf_snoc, bcs_append, ← HQ.out, ← HR.out]; exact hown1
        have RB : Below w.heap.size w w2 := (hb.alloc hb.size _).drew.grown hgrow1 (by have := hb.size; simp; omega) (fun g h => (hown.lt g h).1)
        clear hown1 hgrow1 hown hb hq hr hw1 hw2 hw3
        go_wp2
        go_roundw
        case rel => exact ⟨k + 1, by omega, by go_num, R, RB⟩
        case measure => simp [intOf]; omega
    · have hconv := run_convert_own (P := Tryd.prog) 55 9 Tryd.underlying55 Tryd.underlying5 Tryd.underlying9 hown
      go_wp2
      go_ret
      refine ⟨?_, hb⟩
      rw [List.take_of_length_le (by simp; omega)]
      rfl
end Go.Proofs.YtgjlhokakcdpbaaDoor
