/-
  Lists of sets and of numbers, and cores: marked, and asked for the marks.
-/
import Derived.Test.YtobjgdnmlibofaaGreatCoreV
import Derived.Test.YtobjgdnmlibofaaGreatPtrMk
import Derived.Test.YtobjgdnmlibofaaGreatDdtMk
import Derived.RegionCalls
import Derived.Deep.RegionHeld3
set_option maxRecDepth 100000
namespace Go.Proofs.YtobjgdnmlibofaaGreat
open Go.ChangeShapes Go.WideShapes Go.ChangeAt Go.RowKit Go.Proofs.Palim

/-- The marks of n sets from k on: seven cells of each. -/
def SMk (k : Nat) (xs : List Value) (n : Nat) : Prop := ∀ j, j < n → xs[j * 31]? = some (.string (mkText (k + j * 7))) ∧ xs[j * 31 + 1]? = some (.int .i64 ((k + j * 7 + 1 : Nat) : Int)) ∧ xs[j * 31 + 2]? = some (.string (mkText (k + j * 7 + 2))) ∧
  xs[j * 31 + 27]? = some (.int .i64 ((k + j * 7 + 3 : Nat) : Int)) ∧ xs[j * 31 + 28]? = some (.int .i64 ((k + j * 7 + 4 : Nat) : Int)) ∧ xs[j * 31 + 29]? = some (.int .i64 ((k + j * 7 + 5 : Nat) : Int)) ∧ xs[j * 31 + 30]? = some (.bool (decide ((k + j * 7 + 6) % 3 = 0)))
def set7 (xs : List Value) (m : Nat) (u0 u1 u2 u3 u4 u5 u6 : Value) : List Value := ((((((xs.set m u0).set (m + 1) u1).set (m + 2) u2).set (m + 27) u3).set (m + 27 + 1) u4).set (m + 27 + 2) u5).set (m + 30) u6
theorem set7_other {xs : List Value} {m i : Nat} {u0 u1 u2 u3 u4 u5 u6 : Value} (h0 : m ≠ i) (h1 : m + 1 ≠ i) (h2 : m + 2 ≠ i) (h3 : m + 27 ≠ i) (h4 : m + 27 + 1 ≠ i) (h5 : m + 27 + 2 ≠ i) (h6 : m + 30 ≠ i) : (set7 xs m u0 u1 u2 u3 u4 u5 u6)[i]? = xs[i]? := by
  unfold set7
  rw [List.getElem?_set_ne h6, List.getElem?_set_ne h5, List.getElem?_set_ne h4, List.getElem?_set_ne h3, List.getElem?_set_ne h2, List.getElem?_set_ne h1, List.getElem?_set_ne h0]
theorem set7_same {xs : List Value} {m : Nat} {u0 u1 u2 u3 u4 u5 u6 : Value} (hl : m + 30 < xs.length) : (set7 xs m u0 u1 u2 u3 u4 u5 u6)[m]? = some u0 ∧ (set7 xs m u0 u1 u2 u3 u4 u5 u6)[m + 1]? = some u1 ∧ (set7 xs m u0 u1 u2 u3 u4 u5 u6)[m + 2]? = some u2 ∧ (set7 xs m u0 u1 u2 u3 u4 u5 u6)[m + 27]? = some u3 ∧ (set7 xs m u0 u1 u2 u3 u4 u5 u6)[m + 27 + 1]? = some u4 ∧ (set7 xs m u0 u1 u2 u3 u4 u5 u6)[m + 27 + 2]? = some u5 ∧ (set7 xs m u0 u1 u2 u3 u4 u5 u6)[m + 30]? = some u6 := by
  unfold set7
  refine ⟨?_, ?_, ?_, ?_, ?_, ?_, ?_⟩
  · rw [List.getElem?_set_ne (by omega), List.getElem?_set_ne (by omega), List.getElem?_set_ne (by omega), List.getElem?_set_ne (by omega), List.getElem?_set_ne (by omega), List.getElem?_set_ne (by omega), List.getElem?_set_self (by omega)]
  · rw [List.getElem?_set_ne (by omega), List.getElem?_set_ne (by omega), List.getElem?_set_ne (by omega), List.getElem?_set_ne (by omega), List.getElem?_set_ne (by omega), List.getElem?_set_self (by simp only [List.length_set]; omega)]
  · rw [List.getElem?_set_ne (by omega), List.getElem?_set_ne (by omega), List.getElem?_set_ne (by omega), List.getElem?_set_ne (by omega), List.getElem?_set_self (by simp only [List.length_set]; omega)]
  · rw [List.getElem?_set_ne (by omega), List.getElem?_set_ne (by omega), List.getElem?_set_ne (by omega), List.getElem?_set_self (by simp only [List.length_set]; omega)]
  · rw [List.getElem?_set_ne (by omega), List.getElem?_set_ne (by omega), List.getElem?_set_self (by simp only [List.length_set]; omega)]
  · rw [List.getElem?_set_ne (by omega), List.getElem?_set_self (by simp only [List.length_set]; omega)]
  · rw [List.getElem?_set_self (by simp only [List.length_set]; omega)]
theorem SMk.more {k j : Nat} {xs : List Value} {u0 u1 u2 u3 u4 u5 u6 : Value} (h : SMk k xs j) (hl : j * 31 + 30 < xs.length) (h0 : u0 = .string (mkText (k + j * 7))) (h1 : u1 = .int .i64 ((k + j * 7 + 1 : Nat) : Int)) (h2 : u2 = .string (mkText (k + j * 7 + 2)))
    (h3 : u3 = .int .i64 ((k + j * 7 + 3 : Nat) : Int)) (h4 : u4 = .int .i64 ((k + j * 7 + 4 : Nat) : Int)) (h5 : u5 = .int .i64 ((k + j * 7 + 5 : Nat) : Int)) (h6 : u6 = .bool (decide ((k + j * 7 + 6) % 3 = 0))) : SMk k (set7 xs (j * 31) u0 u1 u2 u3 u4 u5 u6) (j + 1) := by
  subst h0 h1 h2 h3 h4 h5 h6
  intro i hi
  by_cases e : i = j
  · subst e
    exact set7_same hl
  · obtain ⟨a0, a1, a2, a3, a4, a5, a6⟩ := h i (by omega)
    refine ⟨?_, ?_, ?_, ?_, ?_, ?_, ?_⟩ <;> (rw [set7_other (by omega) (by omega) (by omega) (by omega) (by omega) (by omega) (by omega)]; assumption)

def MarkedS (k : Nat) (v : Value) (base n : Nat) (w : World) (e : Ending) (w' : World) : Prop :=
  e = .returned (.int .i64 ((k + n * 7 : Nat) : Int)) ∧ (∃ xs, w'.ownsRow base 89 31 v n xs ∧ SMk k xs n) ∧ Turned (fun b => v.ownBlock = some b) w w'

set_option maxHeartbeats 4000000 in
theorem markCoreSetS_any (v : Value) (n k base : Nat) (xs0 : List Value) (w : World) (h : w.ownsRow base 89 31 v n xs0) (hs : n ≤ 1048576) (hk0 : 1 ≤ k) (hk1 : k ≤ 100000000) :
    Calls Tryz.prog 79 #[v, .int .i64 (k : Int)] w (MarkedS k v base n w) := by
  by_cases hn : n = 0
  · subst hn
    obtain ⟨_, A, c, rfl, _, _, _⟩ := sl_of_own h
    have HO := Lib.hid h
    clear h
    go_enter Tryz.func79, Tryz.ntmps79
    go_wp2
    go_loopw [1, 5] (fun l i wr => l = .int .i64 (k : Int) ∧ i = .int .i64 0 ∧ wr = w) (fun _ _ _ => 0)
    case atStart => exact ⟨rfl, rfl, rfl⟩
    case round =>
      obtain ⟨rfl, rfl, rfl⟩ := hrel
      go_wp2
      go_ret
      exact ⟨rfl, ⟨_, HO.out, fun j hj => absurd hj (Nat.not_lt_zero _)⟩, Turned.refl _ _⟩
  · obtain ⟨g, cap, rfl, hbg, hgl⟩ := h.form (by omega)
    have hcp : cap ≤ maxLen ∧ n ≤ cap := by
      rcases h.2 with ⟨hv, _⟩ | ⟨g', cap', cur, hv, _, _, h1, h2, _⟩
      · cases hv
      · injection hv with e1 e2 e3
        subst e3
        exact ⟨h2, h1⟩
    obtain ⟨hcp1, hcp2⟩ := hcp
    unfold maxLen at hcp1
    have HO0 := Lib.hid h
    clear h
    go_enter Tryz.func79, Tryz.ntmps79
    go_wp2
    go_loopw [1, 5] (fun l i wr => ∃ (j kk : Nat) (xs : List Value), j ≤ n ∧ kk = k + j * 7 ∧ l = .int .i64 (kk : Int) ∧ i = .int .i64 (j : Int) ∧ Hid (wr.ownsRow base 89 31 (.slice (some ⟨g, 0, none⟩) n cap) n xs) ∧ Hid (SMk k xs j) ∧ Hid (Turned (fun b => b = g) w wr)) (fun _ i _ => n - (RowKit.intOf i).toNat)
    case atStart => exact ⟨0, k, _, Nat.zero_le _, by omega, rfl, rfl, HO0, Lib.hid (fun j hj => absurd hj (Nat.not_lt_zero _)), Lib.hid (Turned.refl _ _)⟩
    case round =>
      obtain ⟨j, kk, xs, hj, hkk, rfl, rfl, HO, HT, HW⟩ := hrel
      have HK := Lib.hid hkk
      have hkb : kk ≤ 107340032 := by omega
      have hkb1 : 1 ≤ kk := by omega
      clear hkk
      by_cases hlt : j < n
      · have hxl : xs.length = n * 31 := HO.out.1
        have HXL := Lib.hid hxl
        clear hxl
        go_wp2_with fail
        refine (markText_any kk _ hkb1 (by omega)).mono ?_
        rintro e w1 ⟨rfl, hb1⟩
        have HO1 := Lib.hid (own_kept HO.out (w' := w1) (fun b e => hb1.block b (HO.out.lt b e).2))
        have HW1 := Lib.hid (HW.out.trans (turned_of_below hb1))
        obtain ⟨⟨u0, _, hc0⟩, hf0, _, _⟩ := own_at HO1.out (j * 31) (by omega)
        obtain ⟨⟨u1, _, hc1⟩, hf1, _, _⟩ := own_at HO1.out (j * 31 + 1) (by omega)
        have HO2 := Lib.hid (own_setN (own_setN HO1.out (j * 31) (.string (mkText kk))) (j * 31 + 1) (.int .i64 ((kk : Int) + 1)))
        have HW2 := Lib.hid (turned_setCell (turned_setCell HW1.out (p := ⟨g, j * 31, none⟩) rfl (.string (mkText kk))) (p := ⟨g, j * 31 + 1, none⟩) rfl (.int .i64 ((kk : Int) + 1)))
        clear hb1 HO HW HO1 HW1
        go_wp2_with fail
        refine (markText_any (kk + 2) _ (by omega) (by omega)).mono ?_
        rintro e w3 ⟨rfl, hb3⟩
        have HO3 := Lib.hid (own_kept HO2.out (w' := w3) (fun b e => hb3.block b (HO2.out.lt b e).2))
        have HW3 := Lib.hid (HW2.out.trans (turned_of_below hb3))
        obtain ⟨⟨u2, _, hc2⟩, hf2, _, _⟩ := own_at HO3.out (j * 31 + 2) (by omega)
        obtain ⟨⟨u3, _, hc3⟩, hf3, _, _⟩ := own_at HO3.out (j * 31 + 27) (by omega)
        obtain ⟨⟨u4, _, hc4⟩, hf4, _, _⟩ := own_at HO3.out (j * 31 + 27 + 1) (by omega)
        obtain ⟨⟨u5, _, hc5⟩, hf5, _, _⟩ := own_at HO3.out (j * 31 + 27 + 2) (by omega)
        obtain ⟨⟨u6, _, hc6⟩, hf6, _, _⟩ := own_at HO3.out (j * 31 + 30) (by omega)
        have HO4 := Lib.hid (own_setN (own_setN (own_setN (own_setN (own_setN HO3.out (j * 31 + 2) (.string (mkText (kk + 2)))) (j * 31 + 27) (.int .i64 ((kk : Int) + 1 + 1 + 1))) (j * 31 + 27 + 1) (.int .i64 ((kk : Int) + 1 + 1 + 1 + 1))) (j * 31 + 27 + 2) (.int .i64 ((kk : Int) + 1 + 1 + 1 + 1 + 1))) (j * 31 + 30) (.bool (decide ((kk + 6) % 3 = 0))))
        have HW4 := Lib.hid (turned_setCell (turned_setCell (turned_setCell (turned_setCell (turned_setCell HW3.out (p := ⟨g, j * 31 + 2, none⟩) rfl (.string (mkText (kk + 2)))) (p := ⟨g, j * 31 + 27, none⟩) rfl (.int .i64 ((kk : Int) + 1 + 1 + 1))) (p := ⟨g, j * 31 + 27 + 1, none⟩) rfl (.int .i64 ((kk : Int) + 1 + 1 + 1 + 1))) (p := ⟨g, j * 31 + 27 + 2, none⟩) rfl (.int .i64 ((kk : Int) + 1 + 1 + 1 + 1 + 1))) (p := ⟨g, j * 31 + 30, none⟩) rfl (.bool (decide ((kk + 6) % 3 = 0))))
        have HT4 := Lib.hid (show SMk k (set7 xs (j * 31) (.string (mkText kk)) (.int .i64 ((kk : Int) + 1)) (.string (mkText (kk + 2))) (.int .i64 ((kk : Int) + 1 + 1 + 1)) (.int .i64 ((kk : Int) + 1 + 1 + 1 + 1)) (.int .i64 ((kk : Int) + 1 + 1 + 1 + 1 + 1)) (.bool (decide ((kk + 6) % 3 = 0)))) (j + 1) from by
          have hk := HK.out
          have hx := HXL.out
          exact SMk.more HT.out (by omega) (congrArg (fun n => Value.string (mkText n)) hk) (congrArg (Value.int .i64) (by omega)) (congrArg (fun n => Value.string (mkText (n + 2))) hk) (congrArg (Value.int .i64) (by omega)) (congrArg (Value.int .i64) (by omega)) (congrArg (Value.int .i64) (by omega)) (congrArg (fun n => Value.bool (decide ((n + 6) % 3 = 0))) hk))
        have hrem : (((kk : Int) + 1 + 1 + 1 + 1 + 1 + 1) % 3 == 0) = decide ((kk + 6) % 3 = 0) := by
          rw [show (kk : Int) + 1 + 1 + 1 + 1 + 1 + 1 = ((kk + 6 : Nat) : Int) by omega]
          by_cases h3 : (kk + 6) % 3 = 0
          · rw [decide_eq_true h3]; simp; omega
          · rw [decide_eq_false h3]; simp; omega
        clear hb3 HO2 HW2 HT HO3 HW3 hc0 hf0 hc1 hf1 HXL
        go_wp2
        go_roundw
        case rel => exact ⟨j + 1, kk + 7, _, by omega, by have := HK.out; omega, by go_num, by go_num, HO4, HT4, HW4⟩
        case measure => simp [RowKit.intOf]; omega
      · have hjn : j = n := by omega
        have HX := Lib.hid (show SMk k xs n from hjn ▸ HT.out)
        have HKN := Lib.hid (show kk = k + n * 7 from by rw [HK.out, hjn])
        clear hjn
        go_wp2
        go_ret
        refine ⟨?_, ⟨_, HO.out, HX.out⟩, HW.out.mono ?_⟩
        · exact ret_int (by rw [HKN.out])
        · rintro b _ rfl; rfl

set_option maxHeartbeats 1000000 in
theorem heldIntS_any (v : Value) (n k : Nat) (w : World) (h : Sl w 1 v n (ics (imarks k n))) (hv : ∀ b, v.ownBlock = some b → b < w.heap.size) (hs : n ≤ 1048576) (hk0 : 1 ≤ k) (hk1 : k ≤ 200000000) :
    Calls Tryz.prog 87 #[v, .int .i64 (k : Int)] w (HeldPost ((k + n : Nat) : Int) w) := by
  by_cases hn : n = 0
  · subst hn
    obtain ⟨_, A, c, rfl, _, _, _⟩ := h
    clear hv
    go_enter Tryz.func87, Tryz.ntmps87
    go_wp2
    go_loopw [1, 5] (fun l i wr => l = .int .i64 (k : Int) ∧ i = .int .i64 0 ∧ wr = w) (fun _ _ _ => 0)
    case atStart => exact ⟨rfl, rfl, rfl⟩
    case round =>
      obtain ⟨rfl, rfl, rfl⟩ := hrel
      go_wp2
      go_ret
      exact ⟨rfl, Below.refl _ _⟩
  · obtain ⟨b, off, c, rfl, hnc, hcm, hcell⟩ := h.form (by omega)
    have hbl : b < w.heap.size := hv b rfl
    have HC := Lib.hid hcell
    unfold maxLen at hcm
    clear hcell h hv
    go_enter Tryz.func87, Tryz.ntmps87
    go_wp2
    go_loopw [1, 5] (fun l i wr => ∃ (j kk : Nat), j ≤ n ∧ Hid (kk = k + j) ∧ l = .int .i64 (kk : Int) ∧ i = .int .i64 (j : Int) ∧ Hid (Below w.heap.size w wr)) (fun _ i _ => n - (RowKit.intOf i).toNat)
    case atStart => exact ⟨0, k, Nat.zero_le _, Lib.hid rfl, rfl, rfl, Lib.hid (Below.refl _ _)⟩
    case round =>
      obtain ⟨j, kk, hj, HK, rfl, rfl, HB⟩ := hrel
      have hkb : kk ≤ 201048576 := by have := HK.out; omega
      have hkb1 : 1 ≤ kk := by have := HK.out; omega
      by_cases hlt : j < n
      · have hrd : wr.cell? ⟨b, off + j, none⟩ = some (.int .i64 (kk : Int)) := by
          refine (HB.out.cell hbl).trans (HC.out j _ ?_)
          rw [ics_at _ j (by rw [imarks_length]; exact hlt), HK.out]
          simp [imarks]
        have hj1 : (j : Int) < (n : Int) := by omega
        go_wp2
        go_roundw
        case rel => exact ⟨j + 1, kk + 1, by omega, Lib.hid (by have := HK.out; omega), by go_num, by go_num, HB⟩
        case measure => simp [RowKit.intOf]; omega
      · have HKN := Lib.hid (show kk = k + n from by have := HK.out; omega)
        go_wp2
        go_ret
        exact ⟨ret_int (by rw [HKN.out]), HB.out⟩
end Go.Proofs.YtobjgdnmlibofaaGreat
