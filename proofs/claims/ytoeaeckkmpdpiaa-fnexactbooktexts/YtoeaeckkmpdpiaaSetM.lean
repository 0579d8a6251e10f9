/-
  Lists of sets marked.
-/
import Derived.Test.YtoeaeckkmpdpiaaBookV
import Derived.RegionCalls
set_option maxRecDepth 100000
namespace Go.Proofs.Ytoeaeckkmpdpiaa
open Go.ChangeShapes Go.WideShapes Go.ChangeAt Go.RowKit Go.Proofs.Palim

/-- The mark of the cell m, counted from k on. -/
def mcell (k m : Nat) : Value := if m % 11 = 1 then .int .i64 ((k + m : Nat) : Int) else .string (mkText (k + m))
def mcells (k n : Nat) : List Value := (List.range n).map (mcell k)
theorem mcells_length (k n : Nat) : (mcells k n).length = n := by simp [mcells]
theorem mcells_succ (k n : Nat) : mcells k (n + 1) = mcells k n ++ [mcell k n] := by simp [mcells, List.range_succ]
theorem mcells_at (k n i : Nat) (h : i < n) : (mcells k n)[i]? = some (mcell k i) := by simp [mcells, h]
theorem mcell_str {k m : Nat} (h : m % 11 ≠ 1) : mcell k m = .string (mkText (k + m)) := if_neg h
theorem mcell_int {k m : Nat} (h : m % 11 = 1) : mcell k m = .int .i64 ((k + m : Nat) : Int) := if_pos h
theorem take_mark {xs : List Value} {k m : Nat} {u : Value} (h : m < xs.length) (ht : xs.take m = mcells k m) (hu : u = mcell k m) : (xs.set m u).take (m + 1) = mcells k (m + 1) := by
  rw [take_set_succ xs m u h, ht, mcells_succ, hu]

def MarkedK (k : Nat) (v : Value) (base n : Nat) (w : World) (e : Ending) (w' : World) : Prop :=
  e = .returned (.int .i64 ((k + n * 11 : Nat) : Int)) ∧ w'.ownsRow base 65 11 v n (mcells k (n * 11)) ∧ Turned (fun b => v.ownBlock = some b) w w'

set_option maxHeartbeats 2000000 in
theorem markBookSetS_any (v : Value) (n k base : Nat) (xs0 : List Value) (w : World) (h : w.ownsRow base 65 11 v n xs0) (hs : n ≤ 1048576) (hk0 : 1 ≤ k) (hk1 : k ≤ 100000000) :
    Calls Try.prog 38 #[v, .int .i64 (k : Int)] w (MarkedK k v base n w) := by
  by_cases hn : n = 0
  · subst hn
    obtain ⟨_, A, c, rfl, _, _, _⟩ := sl_of_own h
    have HO := Lib.hid h
    clear h
    go_enter Try.func38, Try.ntmps38
    go_wp2
    go_loopw [1, 5, 6] (fun l i _ wr => l = .int .i64 (k : Int) ∧ i = .int .i64 0 ∧ wr = w) (fun _ _ _ _ => 0)
    case atStart => exact ⟨rfl, rfl, rfl⟩
    case round =>
      obtain ⟨rfl, rfl, rfl⟩ := hrel
      go_wp2
      go_ret
      refine ⟨rfl, ?_, Turned.refl _ _⟩
      have h0 := HO.out
      rw [List.length_eq_zero_iff.1 (h0.1.trans (Nat.zero_mul _))] at h0
      exact h0
  · obtain ⟨g, cap, rfl, hbg, hgl⟩ := h.form (by omega)
    have hcp : cap ≤ maxLen ∧ n ≤ cap := by
      rcases h.2 with ⟨hv, _⟩ | ⟨g', cap', cur, hv, _, _, h1, h2, _⟩
      · cases hv
      · injection hv with e1 e2 e3
        subst e3
        exact ⟨h2, h1⟩
    obtain ⟨hcp1, hcp2⟩ := hcp
    unfold maxLen at hcp1
    have HO0 := Lib.hid h
    clear h
    go_enter Try.func38, Try.ntmps38
    go_wp2
    go_loopw [1, 5, 6] (fun l i _ wr => ∃ (j kk : Nat) (xs : List Value), j ≤ n ∧ kk = k + j * 11 ∧ l = .int .i64 (kk : Int) ∧ i = .int .i64 (j : Int) ∧ Hid (wr.ownsRow base 65 11 (.slice (some ⟨g, 0, none⟩) n cap) n xs) ∧ Hid (xs.take (j * 11) = mcells k (j * 11)) ∧ Hid (Turned (fun b => b = g) w wr)) (fun _ i _ _ => n - (intOf i).toNat)
    case atStart => exact ⟨0, k, _, Nat.zero_le _, by omega, rfl, rfl, HO0, Lib.hid (by simp [mcells]), Lib.hid (Turned.refl _ _)⟩
    case round =>
      obtain ⟨j, kk, xs, hj, hkk, rfl, rfl, HO, HT, HW⟩ := hrel
      have HK := Lib.hid hkk
      have hkb : kk ≤ 111534336 := by omega
      have hkb1 : 1 ≤ kk := by omega
      clear hkk
      by_cases hlt : j < n
      · have hxl : xs.length = n * 11 := HO.out.1
        have HXL := Lib.hid hxl
        clear hxl
        go_wp2_with fail
        refine (markText_any kk _ hkb1 (by omega)).mono ?_
        rintro e w1 ⟨rfl, hb1⟩
        have HO1 := Lib.hid (own_kept HO.out (w' := w1) (fun b e => hb1.block b (HO.out.lt b e).2))
        have HW1 := Lib.hid (HW.out.trans (turned_of_below hb1))
        obtain ⟨⟨u0, _, hc0⟩, hf0, _, _⟩ := own_at HO1.out (j * 11) (by omega)
        obtain ⟨⟨u1, _, hc1⟩, hf1, _, _⟩ := own_at HO1.out (j * 11 + 1) (by omega)
        have HO2 := Lib.hid (own_setN (own_setN HO1.out (j * 11) (.string (mkText kk))) (j * 11 + 1) (.int .i64 ((kk : Int) + 1)))
        have HW2 := Lib.hid (turned_setCell (turned_setCell HW1.out (p := ⟨g, j * 11, none⟩) rfl (.string (mkText kk))) (p := ⟨g, j * 11 + 1, none⟩) rfl (.int .i64 ((kk : Int) + 1)))
        have HT2 := Lib.hid (show ((xs.set (j * 11) (.string (mkText kk))).set (j * 11 + 1) (.int .i64 ((kk : Int) + 1))).take (j * 11 + 2) = mcells k (j * 11 + 2) from by
          refine take_mark (by rw [List.length_set, HXL.out]; omega) (take_mark (by rw [HXL.out]; omega) HT.out ?_) ?_
          · rw [mcell_str (by omega), HK.out]
          · rw [mcell_int (by omega), HK.out]; congr 1)
        clear hb1 HO HW HT HO1 HW1
        go_wp2_with fail
        refine (markText_any (kk + 2) _ (by omega) (by omega)).mono ?_
        rintro e w3 ⟨rfl, hb3⟩
        have HO3 := Lib.hid (own_kept HO2.out (w' := w3) (fun b e => hb3.block b (HO2.out.lt b e).2))
        have HW3 := Lib.hid (HW2.out.trans (turned_of_below hb3))
        obtain ⟨⟨u2, _, hc2⟩, hf2, _, _⟩ := own_at HO3.out (j * 11 + 2) (by omega)
        have HO4 := Lib.hid (own_setN HO3.out (j * 11 + 2) (.string (mkText (kk + 2))))
        have HW4 := Lib.hid (turned_setCell HW3.out (p := ⟨g, j * 11 + 2, none⟩) rfl (.string (mkText (kk + 2))))
        have HT4 := Lib.hid (show (((xs.set (j * 11) (.string (mkText kk))).set (j * 11 + 1) (.int .i64 ((kk : Int) + 1))).set (j * 11 + 2) (.string (mkText (kk + 2)))).take (j * 11 + 3) = mcells k (j * 11 + 3) from by
          refine take_mark (by simp only [List.length_set]; rw [HXL.out]; omega) HT2.out ?_
          rw [mcell_str (by omega), HK.out]; rfl)
        clear hb3 HO2 HW2 HT2 HO3 HW3 hc0 hf0 hc1 hf1
        obtain ⟨xs4, HX4, HT5⟩ : ∃ xs4, Hid ((w3.setCell ⟨g, j * 11 + 2, none⟩ (.string (mkText (kk + 2)))).ownsRow base 65 11 (.slice (some ⟨g, 0, none⟩) n cap) n xs4) ∧ Hid (xs4.take (j * 11 + 3) = mcells k (j * 11 + 3)) := ⟨_, HO4, HT4⟩
        clear HO4 HT4
        go_wp2
        go_loopw [1, 6] (fun l i wr => ∃ (jj kk2 : Nat) (xs : List Value), jj ≤ 8 ∧ Hid (kk2 = k + (j * 11 + 3 + jj)) ∧ 1 ≤ kk2 ∧ kk2 ≤ 211534336 ∧ l = .int .i64 (kk2 : Int) ∧ i = .int .i64 (jj : Int) ∧ Hid (wr.ownsRow base 65 11 (.slice (some ⟨g, 0, none⟩) n cap) n xs) ∧ Hid (xs.take (j * 11 + 3 + jj) = mcells k (j * 11 + 3 + jj)) ∧ Hid (Turned (fun b => b = g) w wr)) (fun _ i _ => 8 - (intOf i).toNat)
        case atStart => exact ⟨0, kk + 3, xs4, Nat.zero_le _, Lib.hid (by have := HK.out; omega), by omega, by omega, by go_num, rfl, HX4, HT5, HW4⟩
        case round =>
          clear HX4 HT5 HW4 HXL hc2 hf2
          obtain ⟨jj, kk2, ys, hjj, HK2, hq1, hq2, rfl, rfl, HO5, HT5, HW5⟩ := hrel
          by_cases hj8 : jj < 8
          · have hjn : (j : Int) < (n : Int) := by omega
            have hj8' : (jj : Int) < 8 := by omega
            go_wp2_with fail
            go_region_with ((go_at_call 39; (refine (markText_any kk2 _ hq1 (by omega)).mono ?_); rintro e w6 ⟨rfl, hb6⟩; have HO6 := Lib.hid (own_kept HO5.out (w' := w6) (fun b e => hb6.block b (HO5.out.lt b e).2)); obtain ⟨⟨u6, _, hc6⟩, hf6, _, _⟩ := own_at HO6.out (j * 11 + 3 + jj) (by omega)))
            all_goals
              have HO7 := Lib.hid (own_setN HO6.out (j * 11 + 3 + jj) (.string (mkText kk2)))
              have HW7 := Lib.hid (turned_setCell (HW5.out.trans (turned_of_below ((Below.refl _ _).drew.trans hb6))) (p := ⟨g, j * 11 + 3 + jj, none⟩) rfl (.string (mkText kk2)))
              have HT7 := Lib.hid (show (ys.set (j * 11 + 3 + jj) (.string (mkText kk2))).take (j * 11 + 3 + jj + 1) = mcells k (j * 11 + 3 + jj + 1) from by
                refine take_mark (by have := HO5.out.1; omega) HT5.out ?_
                rw [mcell_str (by omega), HK2.out])
              clear hb6 HO5 HT5 HW5 HO6
              go_wp2
              go_roundw
              case rel => exact ⟨jj + 1, kk2 + 1, _, by omega, Lib.hid (by have := HK2.out; omega), by omega, by have := HK2.out; omega, by go_num, by go_num, HO7, HT7, HW7⟩
              case measure => simp [intOf]; omega
          · have hj88 : jj = 8 := by omega
            have HK3 := Lib.hid (show kk2 = k + (j + 1) * 11 from by have := HK2.out; omega)
            have HT6 := Lib.hid (show ys.take ((j + 1) * 11) = mcells k ((j + 1) * 11) from by have := HT5.out; rw [hj88] at this; rw [show (j + 1) * 11 = j * 11 + 3 + 8 by omega]; exact this)
            clear hj88 HT5 HK2
            go_wp2
            go_roundw
            case rel => exact ⟨j + 1, kk2, ys, by omega, HK3.out, rfl, by go_num, HO5, HT6, HW5⟩
            case measure => simp [intOf]; omega
      · have hjn : j = n := by omega
        have HX := Lib.hid (show xs = mcells k (n * 11) from by
          have hl := HO.out.1
          have ht := HT.out
          rw [List.take_of_length_le (by omega), hjn] at ht
          exact ht)
        have HKN := Lib.hid (show kk = k + n * 11 from by rw [HK.out, hjn])
        clear hjn
        go_wp2
        go_ret
        refine ⟨?_, ?_, HW.out.mono ?_⟩
        · exact ret_int (by rw [HKN.out])
        · rw [← HX.out]; exact HO.out
        · rintro b _ rfl; rfl

def BTurns (v : Value) (b : Nat) : Prop := v.ownBlock = some b
/-- A book marked. -/
def MarkedB (k : Nat) (v : Value) (base n : Nat) (w : World) (e : Ending) (w' : World) : Prop :=
  e = .returned (.int .i64 ((k + n * 11 : Nat) : Int)) ∧ w'.ownsRow base 65 11 v n (mcells k (n * 11)) ∧ Turned (BTurns v) w w'

set_option maxHeartbeats 1000000 in
theorem markBook_any (v : Value) (n k base : Nat) (xs0 : List Value) (w : World) (h : w.ownsRow base 65 11 v n xs0) (hs : n ≤ 1048576) (hk0 : 1 ≤ k) (hk1 : k ≤ 100000000) :
    Calls Try.prog 13 #[.agg #[v], .int .i64 (k : Int)] w (MarkedB k v base n w) := by
  have HO := Lib.hid h
  obtain ⟨_, A, c, rfl, _, _, _⟩ := sl_of_own h
  clear h
  have HB := Lib.hid (Below.new1 (w := w) (.cells #[.slice A n c] 30))
  go_enter Try.func13, Try.ntmps13
  go_wp2_with fail
  refine (markBookSetS_any _ n k base xs0 _ (own_kept HO.out fun b e => HB.out.block b (HO.out.lt b e).2) hs hk0 hk1).mono ?_
  rintro e w2 ⟨rfl, ho, ht⟩
  have HO2 := Lib.hid ho
  have HT2 := Lib.hid ((turned_of_below (S := BTurns (.slice A n c)) HB.out).trans ht)
  clear ho ht
  go_wp2
  go_ret
  exact ⟨rfl, HO2.out, HT2.out⟩
end Go.Proofs.Ytoeaeckkmpdpiaa
