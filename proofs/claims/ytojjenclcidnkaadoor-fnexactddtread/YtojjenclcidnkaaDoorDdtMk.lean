/-
  Lists of entries marked, and asked for the marks.
-/
import Derived.Test.YtojjenclcidnkaaDoorDdtS
import Derived.WalkKit
import Derived.ProofKit
import Derived.Lib.Hide
import Derived.WalkSpells
import Derived.WalkSmall
set_option maxRecDepth 100000
namespace Go.Proofs.YtojjenclcidnkaaDoor
open Go.ChangeShapes Go.WideShapes Go.ChangeAt Go.RowKit Go.Proofs.Palim

/-- The marks of entries from k on. -/
def emarks (k n : Nat) : List EntM := (List.range n).map fun i => ⟨((k + 3 * i : Nat) : Int), ((k + 3 * i + 1 : Nat) : Int), ((k + 3 * i + 2 : Nat) : Int)⟩
theorem emarks_length (k n : Nat) : (emarks k n).length = n := by simp [emarks]
theorem emarks_succ (k n : Nat) : emarks k (n + 1) = emarks k n ++ [⟨((k + 3 * n : Nat) : Int), ((k + 3 * n + 1 : Nat) : Int), ((k + 3 * n + 2 : Nat) : Int)⟩] := by simp [emarks, List.range_succ]
theorem emarks_at (k n i : Nat) (h' : i < (emarks k n).length) : (emarks k n)[i] = ⟨((k + 3 * i : Nat) : Int), ((k + 3 * i + 1 : Nat) : Int), ((k + 3 * i + 2 : Nat) : Int)⟩ := by simp [emarks]

def MarkedE (k : Nat) (v : Value) (base n : Nat) (w : World) (e : Ending) (w' : World) : Prop :=
  e = .returned (.int .i64 ((k + 3 * n : Nat) : Int)) ∧ w'.ownsRow base 33 3 v n (ecs (emarks k n)) ∧ Turned (fun b => v.ownBlock = some b) w w'

set_option maxHeartbeats 1000000 in
theorem markDdtEntryS_any (v : Value) (n k base : Nat) (xs0 : List Value) (w : World) (h : w.ownsRow base 33 3 v n xs0) (hs : n ≤ 1048576) (hk0 : 1 ≤ k) (hk1 : k ≤ 100000000) :
    Calls Tryd.prog 7 #[v, .int .i64 (k : Int)] w (MarkedE k v base n w) := by
  by_cases hn : n = 0
  · subst hn
    obtain ⟨_, A, c, rfl, _, _, _⟩ := sl_of_own h
    have HO := Lib.hid h
    clear h
    go_enter Tryd.func7, Tryd.ntmps7
    go_wp2
    go_loopw [1, 5] (fun l i wr => l = .int .i64 (k : Int) ∧ i = .int .i64 0 ∧ wr = w) (fun _ _ _ => 0)
    case atStart => exact ⟨rfl, rfl, rfl⟩
    case round =>
      obtain ⟨rfl, rfl, rfl⟩ := hrel
      go_wp2
      go_ret
      refine ⟨rfl, ?_, Turned.refl _ _⟩
      have h0 := HO.out
      rw [List.length_eq_zero_iff.1 (h0.1.trans (Nat.zero_mul _))] at h0
      exact h0
  · obtain ⟨g, cap, rfl, hbg, hgl⟩ := h.form (by omega)
    have hcp : cap ≤ maxLen ∧ n ≤ cap := by
      rcases h.2 with ⟨hv, _⟩ | ⟨g', cap', cur, hv, _, _, h1, h2, _⟩
      · cases hv
      · injection hv with e1 e2 e3
        subst e3
        exact ⟨h2, h1⟩
    obtain ⟨hcp1, hcp2⟩ := hcp
    unfold maxLen at hcp1
    have HO0 := Lib.hid h
    clear h
    go_enter Tryd.func7, Tryd.ntmps7
    go_wp2
    go_loopw [1, 5] (fun l i wr => ∃ (j kk : Nat) (xs : List Value), j ≤ n ∧ kk = k + 3 * j ∧ l = .int .i64 (kk : Int) ∧ i = .int .i64 (j : Int) ∧ Hid (wr.ownsRow base 33 3 (.slice (some ⟨g, 0, none⟩) n cap) n xs) ∧ Hid (xs.take (j * 3) = ecs (emarks k j)) ∧ Hid (Turned (fun b => b = g) w wr)) (fun _ i _ => n - (intOf i).toNat)
    case atStart => exact ⟨0, k, _, Nat.zero_le _, rfl, rfl, rfl, HO0, Lib.hid rfl, Lib.hid (Turned.refl _ _)⟩
    case round =>
      obtain ⟨j, kk, xs, hj, hkk, rfl, rfl, HO, HT, HW⟩ := hrel
      have HK := Lib.hid hkk
      have hkb : kk ≤ 103145728 := by omega
      have hkb1 : 1 ≤ kk := by omega
      clear hkk
      by_cases hlt : j < n
      · obtain ⟨⟨u0, _, hc0⟩, hf0, _, _⟩ := own_at HO.out (j * 3) (by omega)
        obtain ⟨⟨u1, _, hc1⟩, hf1, _, _⟩ := own_at HO.out (j * 3 + 1) (by omega)
        obtain ⟨⟨u2, _, hc2⟩, hf2, _, _⟩ := own_at HO.out (j * 3 + 2) (by omega)
        have HO3 := Lib.hid (own_setN (own_setN (own_setN HO.out (j * 3) (.int .i64 (kk : Int))) (j * 3 + 1) (.int .i64 ((kk : Int) + 1))) (j * 3 + 2) (.int .i64 ((kk : Int) + 1 + 1)))
        have HW2 := Lib.hid (turned_setCell (turned_setCell (turned_setCell HW.out (p := ⟨g, j * 3, none⟩) rfl (.int .i64 (kk : Int))) (p := ⟨g, j * 3 + 1, none⟩) rfl (.int .i64 ((kk : Int) + 1))) (p := ⟨g, j * 3 + 2, none⟩) rfl (.int .i64 ((kk : Int) + 1 + 1)))
        have HT2 := Lib.hid (show (((xs.set (j * 3) (.int .i64 (kk : Int))).set (j * 3 + 1) (.int .i64 ((kk : Int) + 1))).set (j * 3 + 2) (.int .i64 ((kk : Int) + 1 + 1))).take ((j + 1) * 3) = ecs (emarks k (j + 1)) from by
          have hl : j * 3 + 2 < xs.length := by have := HO.out.1; omega
          rw [take_set3 xs j _ _ _ hl, HT.out, emarks_succ, ecs_snoc, ← HK.out]
          rfl)
        clear HO HT HW
        go_wp2
        go_roundw
        case rel => exact ⟨j + 1, kk + 3, _, by omega, by have := HK.out; omega, by go_num, by go_num, HO3, HT2, HW2⟩
        case measure => simp [intOf]; omega
      · have hjn : j = n := by omega
        have HX := Lib.hid (show xs = ecs (emarks k n) from by
          have hl := HO.out.1
          have ht := HT.out
          rw [List.take_of_length_le (by omega), hjn] at ht
          exact ht)
        have HKN := Lib.hid (show kk = k + 3 * n from by rw [HK.out, hjn])
        clear hjn
        go_wp2
        go_ret
        refine ⟨?_, ?_, HW.out.mono ?_⟩
        · exact ret_int (by rw [HKN.out])
        · rw [← HX.out]; exact HO.out
        · rintro b _ rfl; rfl

set_option maxHeartbeats 1000000 in
theorem heldDdtEntryS_any (v : Value) (n k : Nat) (w : World) (h : Sl w 3 v n (ecs (emarks k n))) (hv : ∀ b, v.ownBlock = some b → b < w.heap.size) (hs : n ≤ 1048576) (hk0 : 1 ≤ k) (hk1 : k ≤ 100000000) :
    Calls Tryd.prog 8 #[v, .int .i64 (k : Int)] w (HeldPost ((k + 3 * n : Nat) : Int) w) := by
  by_cases hn : n = 0
  · subst hn
    obtain ⟨_, A, c, rfl, _, _, _⟩ := h
    clear hv
    go_enter Tryd.func8, Tryd.ntmps8
    go_wp2
    go_loopw [1, 5] (fun l i wr => l = .int .i64 (k : Int) ∧ i = .int .i64 0 ∧ wr = w) (fun _ _ _ => 0)
    case atStart => exact ⟨rfl, rfl, rfl⟩
    case round =>
      obtain ⟨rfl, rfl, rfl⟩ := hrel
      go_wp2
      go_ret
      exact ⟨rfl, Below.refl _ _⟩
  · obtain ⟨b, off, c, rfl, hnc, hcm, hcell⟩ := h.form (by omega)
    have hbl : b < w.heap.size := hv b rfl
    have HC := Lib.hid hcell
    unfold maxLen at hcm
    clear hcell h hv
    go_enter Tryd.func8, Tryd.ntmps8
    go_wp2
    go_loopw [1, 5] (fun l i wr => ∃ (j kk : Nat), j ≤ n ∧ Hid (kk = k + 3 * j) ∧ l = .int .i64 (kk : Int) ∧ i = .int .i64 (j : Int) ∧ Hid (Below w.heap.size w wr)) (fun _ i _ => n - (intOf i).toNat)
    case atStart => exact ⟨0, k, Nat.zero_le _, Lib.hid rfl, rfl, rfl, Lib.hid (Below.refl _ _)⟩
    case round =>
      obtain ⟨j, kk, hj, HK, rfl, rfl, HB⟩ := hrel
      have hkb : kk ≤ 103145728 := by have := HK.out; omega
      have hkb1 : 1 ≤ kk := by have := HK.out; omega
      by_cases hlt : j < n
      · have hlt' : j < (emarks k n).length := by rw [emarks_length]; exact hlt
        have hrd := ent_read (fun j u hu => (HB.out.cell hbl).trans (HC.out j u hu)) j hlt'
        rw [emarks_at, ← HK.out] at hrd
        obtain ⟨h1, h2, h3⟩ := hrd
        have h2' : wr.cell? ⟨b, off + j * 3 + 1, none⟩ = some (.int .i64 ((kk : Int) + 1)) := h2
        have h3' : wr.cell? ⟨b, off + j * 3 + 2, none⟩ = some (.int .i64 ((kk : Int) + 1 + 1)) := h3
        clear h2 h3
        have hj1 : (j : Int) < (n : Int) := by omega
        go_wp2
        go_roundw
        case rel => exact ⟨j + 1, kk + 3, by omega, Lib.hid (by have := HK.out; omega), by go_num, by go_num, HB⟩
        case measure => simp [intOf]; omega
      · have HKN := Lib.hid (show kk = k + 3 * n from by have := HK.out; omega)
        go_wp2
        go_ret
        exact ⟨ret_int (by rw [HKN.out]), HB.out⟩
end Go.Proofs.YtojjenclcidnkaaDoor
