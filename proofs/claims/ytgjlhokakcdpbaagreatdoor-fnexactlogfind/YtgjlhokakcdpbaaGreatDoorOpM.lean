/-
  Lists of calls marked, and asked for the marks.
-/
import Derived.Test.YtgjlhokakcdpbaaGreatDoorOpS
import Derived.Test.YtgjlhokakcdpbaaGreatDoorBase
set_option maxRecDepth 100000
namespace Go.Proofs.YtgjlhokakcdpbaaGreatDoor
open Go.ChangeShapes Go.WideShapes Go.ChangeAt Go.RowKit Go.Proofs.Palim

/-- The marks of calls from k on. -/
def omarks (k n : Nat) : List RecM := (List.range n).map fun i => ⟨0, 0, ((k + 5 * i : Nat) : Int), mkText (k + 5 * i + 1), mkText (k + 5 * i + 2), ((k + 5 * i + 3 : Nat) : Int), mkText (k + 5 * i + 4)⟩
theorem omarks_length (k n : Nat) : (omarks k n).length = n := by simp [omarks]
theorem omarks_succ (k n : Nat) : omarks k (n + 1) = omarks k n ++ [⟨0, 0, ((k + 5 * n : Nat) : Int), mkText (k + 5 * n + 1), mkText (k + 5 * n + 2), ((k + 5 * n + 3 : Nat) : Int), mkText (k + 5 * n + 4)⟩] := by simp [omarks, List.range_succ]
theorem omarks_at (k n i : Nat) (h' : i < (omarks k n).length) : (omarks k n)[i] = ⟨0, 0, ((k + 5 * i : Nat) : Int), mkText (k + 5 * i + 1), mkText (k + 5 * i + 2), ((k + 5 * i + 3 : Nat) : Int), mkText (k + 5 * i + 4)⟩ := by simp [omarks]
theorem take_set5 {α : Type} (xs : List α) (k : Nat) (a b c d e : α) (h : k * 5 + 4 < xs.length) : (((((xs.set (k * 5) a).set (k * 5 + 1) b).set (k * 5 + 2) c).set (k * 5 + 3) d).set (k * 5 + 4) e).take ((k + 1) * 5) = xs.take (k * 5) ++ [a, b, c, d, e] := by
  rw [show (k + 1) * 5 = k * 5 + 4 + 1 by omega, take_set_succ _ _ _ (by simp; omega), take_set_succ _ _ _ (by simp; omega), take_set_succ _ _ _ (by simp; omega), take_set_succ _ _ _ (by simp; omega), take_set_succ _ _ _ (by omega)]
  simp
def MarkedO (k : Nat) (v : Value) (base n : Nat) (w : World) (e : Ending) (w' : World) : Prop :=
  e = .returned (.int .i64 ((k + 5 * n : Nat) : Int)) ∧ w'.ownsRow base 24 5 v n (ocs (omarks k n)) ∧ Turned (fun b => v.ownBlock = some b) w w'

set_option maxHeartbeats 4000000 in
theorem markBookOpS_any (v : Value) (n k base : Nat) (xs0 : List Value) (w : World) (h : w.ownsRow base 24 5 v n xs0) (hs : n ≤ 1048576) (hk0 : 1 ≤ k) (hk1 : k ≤ 100000000) :
    Calls Tryz.prog 33 #[v, .int .i64 (k : Int)] w (MarkedO k v base n w) := by
  by_cases hn : n = 0
  · subst hn
    obtain ⟨_, A, c, rfl, _, _, _⟩ := sl_of_own h
    have HO := Lib.hid h
    clear h
    go_enter Tryz.func33, Tryz.ntmps33
    go_wp2
    go_loopw [1, 5] (fun l i wr => l = .int .i64 (k : Int) ∧ i = .int .i64 0 ∧ wr = w) (fun _ _ _ => 0)
    case atStart => exact ⟨rfl, rfl, rfl⟩
    case round =>
      obtain ⟨rfl, rfl, rfl⟩ := hrel
      go_wp2
      go_ret
      refine ⟨rfl, ?_, Turned.refl _ _⟩
      have h0 := HO.out
      rw [List.length_eq_zero_iff.1 (h0.1.trans (Nat.zero_mul _))] at h0
      exact h0
  · obtain ⟨g, cap, rfl, hbg, hgl⟩ := h.form (by omega)
    have hcp : cap ≤ maxLen ∧ n ≤ cap := by
      rcases h.2 with ⟨hv, _⟩ | ⟨g', cap', cur, hv, _, _, h1, h2, _⟩
      · cases hv
      · injection hv with e1 e2 e3
        subst e3
        exact ⟨h2, h1⟩
    obtain ⟨hcp1, hcp2⟩ := hcp
    unfold maxLen at hcp1
    have HO0 := Lib.hid h
    clear h
    go_enter Tryz.func33, Tryz.ntmps33
    go_wp2
    go_loopw [1, 5] (fun l i wr => ∃ (j kk : Nat) (xs : List Value), j ≤ n ∧ kk = k + 5 * j ∧ l = .int .i64 (kk : Int) ∧ i = .int .i64 (j : Int) ∧ Hid (wr.ownsRow base 24 5 (.slice (some ⟨g, 0, none⟩) n cap) n xs) ∧ Hid (xs.take (j * 5) = ocs (omarks k j)) ∧ Hid (Turned (fun b => b = g) w wr)) (fun _ i _ => n - (intOf i).toNat)
    case atStart => exact ⟨0, k, _, Nat.zero_le _, rfl, rfl, rfl, HO0, Lib.hid rfl, Lib.hid (Turned.refl _ _)⟩
    case round =>
      obtain ⟨j, kk, xs, hj, hkk, rfl, rfl, HO, HT, HW⟩ := hrel
      have HK := Lib.hid hkk
      have hkb : kk ≤ 105242880 := by omega
      have hkb1 : 1 ≤ kk := by omega
      clear hkk
      by_cases hlt : j < n
      · obtain ⟨⟨u0, _, hc0⟩, hf0, _, _⟩ := own_at HO.out (j * 5) (by omega)
        have HO1 := Lib.hid (own_setN HO.out (j * 5) (.int .i64 (kk : Int)))
        have HW1 := Lib.hid (turned_setCell HW.out (p := ⟨g, j * 5, none⟩) rfl (.int .i64 (kk : Int)))
        go_wp2_with fail
        refine (markText_any (kk + 1) _ (by omega) (by omega)).mono ?_
        rintro e w2 ⟨rfl, hb2⟩
        have HO2 := Lib.hid (own_kept HO1.out (w' := w2) (fun b e => hb2.block b (HO1.out.lt b e).2))
        obtain ⟨⟨u1, _, hc1⟩, hf1, _, _⟩ := own_at HO2.out (j * 5 + 1) (by omega)
        have HO3 := Lib.hid (own_setN HO2.out (j * 5 + 1) (.string (mkText (kk + 1))))
        have HW2 := Lib.hid (turned_setCell (HW1.out.trans (turned_of_below hb2)) (p := ⟨g, j * 5 + 1, none⟩) rfl (.string (mkText (kk + 1))))
        clear hb2 HO1 HO2 HW1 hc0 hf0
        go_wp2_with fail
        refine (markText_any (kk + 2) _ (by omega) (by omega)).mono ?_
        rintro e w3 ⟨rfl, hb3⟩
        have HO4 := Lib.hid (own_kept HO3.out (w' := w3) (fun b e => hb3.block b (HO3.out.lt b e).2))
        obtain ⟨⟨u2, _, hc2⟩, hf2, _, _⟩ := own_at HO4.out (j * 5 + 2) (by omega)
        have HO5 := Lib.hid (own_setN HO4.out (j * 5 + 2) (.string (mkText (kk + 2))))
        obtain ⟨⟨u3, _, hc3⟩, hf3, _, _⟩ := own_at HO5.out (j * 5 + 3) (by omega)
        have HO6 := Lib.hid (own_setN HO5.out (j * 5 + 3) (.int .i64 ((kk : Int) + 3)))
        have HW3 := Lib.hid (turned_setCell (turned_setCell (HW2.out.trans (turned_of_below hb3)) (p := ⟨g, j * 5 + 2, none⟩) rfl (.string (mkText (kk + 2)))) (p := ⟨g, j * 5 + 3, none⟩) rfl (.int .i64 ((kk : Int) + 3)))
        clear hb3 HO3 HO4 HO5 HW2 hc1 hf1
        go_wp2_with fail
        refine (markText_any (kk + 4) _ (by omega) (by omega)).mono ?_
        rintro e w4 ⟨rfl, hb4⟩
        have HO7 := Lib.hid (own_kept HO6.out (w' := w4) (fun b e => hb4.block b (HO6.out.lt b e).2))
        obtain ⟨⟨u4, _, hc4⟩, hf4, _, _⟩ := own_at HO7.out (j * 5 + 4) (by omega)
        have HO8 := Lib.hid (own_setN HO7.out (j * 5 + 4) (.string (mkText (kk + 4))))
        have HW4 := Lib.hid (turned_setCell (HW3.out.trans (turned_of_below hb4)) (p := ⟨g, j * 5 + 4, none⟩) rfl (.string (mkText (kk + 4))))
        have HT2 := Lib.hid (show (((((xs.set (j * 5) (.int .i64 (kk : Int))).set (j * 5 + 1) (.string (mkText (kk + 1)))).set (j * 5 + 2) (.string (mkText (kk + 2)))).set (j * 5 + 3) (.int .i64 ((kk : Int) + 3))).set (j * 5 + 4) (.string (mkText (kk + 4)))).take ((j + 1) * 5) = ocs (omarks k (j + 1)) from by
          have hl : j * 5 + 4 < xs.length := by have := HO.out.1; omega
          rw [take_set5 xs j _ _ _ _ _ hl, HT.out, omarks_succ, ocs_snoc, ← HK.out]
          rfl)
        clear HO HT HW HO6 HO7 HW3 hb4 hc2 hc3 hf2 hf3
        go_wp2
        go_roundw
        case rel => exact ⟨j + 1, kk + 5, _, by omega, by have := HK.out; omega, by go_num, by go_num, HO8, HT2, HW4⟩
        case measure => simp [intOf]; omega
      · have hjn : j = n := by omega
        have HX := Lib.hid (show xs = ocs (omarks k n) from by
          have hl := HO.out.1
          have ht := HT.out
          rw [List.take_of_length_le (by omega), hjn] at ht
          exact ht)
        have HKN := Lib.hid (show kk = k + 5 * n from by rw [HK.out, hjn])
        clear hjn
        go_wp2
        go_ret
        refine ⟨?_, ?_, HW.out.mono ?_⟩
        · exact ret_int (by rw [HKN.out])
        · rw [← HX.out]; exact HO.out
        · rintro b _ rfl; rfl

set_option maxHeartbeats 4000000 in
theorem heldBookOpS_any (v : Value) (n k : Nat) (w : World) (h : Sl w 5 v n (ocs (omarks k n))) (hv : ∀ b, v.ownBlock = some b → b < w.heap.size) (hs : n ≤ 1048576) (hk0 : 1 ≤ k) (hk1 : k ≤ 100000000) :
    Calls Tryz.prog 34 #[v, .int .i64 (k : Int)] w (HeldPost ((k + 5 * n : Nat) : Int) w) := by
  by_cases hn : n = 0
  · subst hn
    obtain ⟨_, A, c, rfl, _, _, _⟩ := h
    clear hv
    go_enter Tryz.func34, Tryz.ntmps34
    go_wp2
    go_loopw [1, 5] (fun l i wr => l = .int .i64 (k : Int) ∧ i = .int .i64 0 ∧ wr = w) (fun _ _ _ => 0)
    case atStart => exact ⟨rfl, rfl, rfl⟩
    case round =>
      obtain ⟨rfl, rfl, rfl⟩ := hrel
      go_wp2
      go_ret
      exact ⟨rfl, Below.refl _ _⟩
  · obtain ⟨b, off, c, rfl, hnc, hcm, hcell⟩ := h.form (by omega)
    have hbl : b < w.heap.size := hv b rfl
    have HC := Lib.hid hcell
    unfold maxLen at hcm
    clear hcell h hv
    go_enter Tryz.func34, Tryz.ntmps34
    go_wp2
    go_loopw [1, 5] (fun l i wr => ∃ (j kk : Nat), j ≤ n ∧ Hid (kk = k + 5 * j) ∧ l = .int .i64 (kk : Int) ∧ i = .int .i64 (j : Int) ∧ Hid (Below w.heap.size w wr)) (fun _ i _ => n - (intOf i).toNat)
    case atStart => exact ⟨0, k, Nat.zero_le _, Lib.hid rfl, rfl, rfl, Lib.hid (Below.refl _ _)⟩
    case round =>
      obtain ⟨j, kk, hj, HK, rfl, rfl, HB⟩ := hrel
      have hkb : kk ≤ 105242880 := by have := HK.out; omega
      have hkb1 : 1 ≤ kk := by have := HK.out; omega
      by_cases hlt : j < n
      · have hlt' : j < (omarks k n).length := by rw [omarks_length]; exact hlt
        have hrd := op_read (fun j u hu => (HB.out.cell hbl).trans (HC.out j u hu)) j hlt'
        rw [omarks_at, ← HK.out] at hrd
        obtain ⟨h1, h2, h3, h4, h5⟩ := hrd
        have h4' : wr.cell? ⟨b, off + j * 5 + 3, none⟩ = some (.int .i64 ((kk : Int) + 3)) := h4
        clear h4
        have hj1 : (j : Int) < (n : Int) := by omega
        have hbr : b < wr.heap.size := Nat.lt_of_lt_of_le hbl HB.out.size
        go_wp2_with fail
        go_region_held3 (fun w' => w'.cell? ⟨b, off + j * 5 + 1, none⟩ = some (.string (mkText (kk + 1))))
          (first
            | go_keep
            | (rw [hb2.cell (by simp <;> omega)]; assumption))
          ((go_at_call 100; ((refine (markText_any (kk + 1) _ (by omega) (by omega)).mono ?_); rintro e w2 ⟨rfl, hb2⟩)))
        have HB2 := Lib.hid (HB.out.drew.trans (hb2.mono (by have := HB.out.size; simp; omega)))
        have k3 := (hb2.cell (by simpa using hbr)).trans h3
        have k4 := (hb2.cell (by simpa using hbr)).trans h4'
        have k5 := (hb2.cell (by simpa using hbr)).trans h5
        have hbr2 : b < w2.heap.size := Nat.lt_of_lt_of_le hbl HB2.out.size
        clear HB hb2 h1 h2 h3 h4' h5
        go_wp2_with fail
        go_region_held3 (fun w' => w'.cell? ⟨b, off + j * 5 + 2, none⟩ = some (.string (mkText (kk + 2))))
          (first
            | go_keep
            | (rw [hb2.cell (by simp <;> omega)]; assumption))
          ((go_at_call 100; ((refine (markText_any (kk + 2) _ (by omega) (by omega)).mono ?_); rintro e w3 ⟨rfl, hb2⟩)))
        have HB3 := Lib.hid (HB2.out.drew.trans (hb2.mono (by have := HB2.out.size; simp; omega)))
        have l4 := (hb2.cell (by simpa using hbr2)).trans k4
        have l5 := (hb2.cell (by simpa using hbr2)).trans k5
        have hbr3 : b < w3.heap.size := Nat.lt_of_lt_of_le hbl HB3.out.size
        clear HB2 hb2 k3 k4 k5
        go_wp2_with fail
        go_region_held3 (fun w' => w'.cell? ⟨b, off + j * 5 + 4, none⟩ = some (.string (mkText (kk + 4))))
          (first
            | go_keep
            | (rw [hb2.cell (by simp <;> omega)]; assumption))
          ((go_at_call 100; ((refine (markText_any (kk + 4) _ (by omega) (by omega)).mono ?_); rintro e w4 ⟨rfl, hb2⟩)))
        have HB4 := Lib.hid (HB3.out.drew.trans (hb2.mono (by have := HB3.out.size; simp; omega)))
        clear HB3 hb2 l4 l5
        go_wp2
        go_roundw
        case rel => exact ⟨j + 1, kk + 5, by omega, Lib.hid (by have := HK.out; omega), by go_num, by go_num, HB4⟩
        case measure => simp [intOf]; omega
      · have HKN := Lib.hid (show kk = k + 5 * n from by have := HK.out; omega)
        go_wp2
        go_ret
        exact ⟨ret_int (by rw [HKN.out]), HB.out⟩
end Go.Proofs.YtgjlhokakcdpbaaGreatDoor
