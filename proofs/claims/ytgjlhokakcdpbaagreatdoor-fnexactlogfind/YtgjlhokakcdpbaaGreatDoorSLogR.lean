/-
  spec's LogRead.
-/
import Derived.Test.YtgjlhokakcdpbaaGreatDoorLogR
import Derived.Test.YtgjlhokakcdpbaaGreatDoorSLog
import Derived.Test.YtgjlhokakcdpbaaGreatDoorSpecUnhex
import Derived.Test.YtgjlhokakcdpbaaGreatDoorPtrRd
set_option maxRecDepth 100000
namespace Go.Proofs.YtgjlhokakcdpbaaGreatDoor
open Go.ChangeShapes Go.WideShapes Go.ChangeAt Go.RowKit Go.Proofs.Palim

abbrev noRec : RecM := ⟨0, 0, 0, ⟨#[]⟩, ⟨#[]⟩, 0, ⟨#[]⟩⟩
/-- What reading a record gives. -/
def LReadPost (t : ByteArray) (w : World) (e : Ending) (w' : World) : Prop :=
  Below w.heap.size w w' ∧ ((∃ r, LSpells t r ∧ e = .returned (.tuple #[rv r, .bool true])) ∨ ((∀ r, ¬ LSpells t r) ∧ e = .returned (.tuple #[rv noRec, .bool false])))
theorem five_cells {w : World} {v : Value} {a0 a1 a2 a3 a4 : ByteArray} {n : Nat} (h : Sl w 1 v n (scs [a0, a1, a2, a3, a4])) (hn : n = 5) : ∃ b off c, v = .slice (some ⟨b, off, none⟩) 5 c ∧ 5 ≤ c ∧ c ≤ maxLen ∧ w.cell? ⟨b, off, none⟩ = some (.string a0) ∧ w.cell? ⟨b, off + 1, none⟩ = some (.string a1) ∧ w.cell? ⟨b, off + 2, none⟩ = some (.string a2) ∧ w.cell? ⟨b, off + 3, none⟩ = some (.string a3) ∧ w.cell? ⟨b, off + 4, none⟩ = some (.string a4) := by
  subst hn
  obtain ⟨b, off, c, rfl, h1, h2, hc⟩ := h.form (by omega)
  refine ⟨b, off, c, rfl, h1, h2, ?_, ?_, ?_, ?_, ?_⟩
  · have := hc 0 _ (scs_at [a0, a1, a2, a3, a4] 0 (by simp)); simpa using this
  · exact hc 1 _ (scs_at [a0, a1, a2, a3, a4] 1 (by simp))
  · exact hc 2 _ (scs_at [a0, a1, a2, a3, a4] 2 (by simp))
  · exact hc 3 _ (scs_at [a0, a1, a2, a3, a4] 3 (by simp))
  · exact hc 4 _ (scs_at [a0, a1, a2, a3, a4] 4 (by simp))
theorem two_cells {w : World} {v : Value} {a0 a1 : ByteArray} {n : Nat} (h : Sl w 1 v n (scs [a0, a1])) (hn : n = 2) : ∃ b off c, v = .slice (some ⟨b, off, none⟩) 2 c ∧ 2 ≤ c ∧ c ≤ maxLen ∧ w.cell? ⟨b, off, none⟩ = some (.string a0) ∧ w.cell? ⟨b, off + 1, none⟩ = some (.string a1) := by
  subst hn
  obtain ⟨b, off, c, rfl, h1, h2, hc⟩ := h.form (by omega)
  refine ⟨b, off, c, rfl, h1, h2, ?_, ?_⟩
  · have := hc 0 _ (scs_at [a0, a1] 0 (by simp)); simpa using this
  · exact hc 1 _ (scs_at [a0, a1] 1 (by simp))
theorem list5 {ps : List ByteArray} (h : ps.length = 5) : ∃ a0 a1 a2 a3 a4, ps = [a0, a1, a2, a3, a4] := by
  match ps, h with
  | [a0, a1, a2, a3, a4], _ => exact ⟨a0, a1, a2, a3, a4, rfl⟩
theorem list2 {ps : List ByteArray} (h : ps.length = 2) : ∃ a0 a1, ps = [a0, a1] := by
  match ps, h with
  | [a0, a1], _ => exact ⟨a0, a1, rfl⟩
theorem textOf_size (a : ByteArray) : (textOf a).size ≤ a.size := by
  unfold textOf
  by_cases h : a = dashB
  · rw [if_pos h]; exact Nat.zero_le _
  · rw [if_neg h]
    show ((unhex a.data.toList).getD []).toArray.size ≤ _
    rw [List.size_toArray]
    cases hu : unhex a.data.toList with
    | none => exact Nat.zero_le _
    | some o =>
      have := unhex_even hu
      rw [size_list, this]
      show o.length ≤ _
      omega
theorem textOf_some {a : ByteArray} {o : List UInt8} (h : a ≠ dashB) (hu : unhex a.data.toList = some o) : textOf a = ⟨o.toArray⟩ := by
  unfold textOf
  rw [if_neg h, hu]; rfl
theorem textOf_none {a : ByteArray} (h : a ≠ dashB) (hu : unhex a.data.toList = none) : textOf a = ⟨#[]⟩ := by
  unfold textOf
  rw [if_neg h, hu]; rfl
theorem pieces_mark {a : ByteArray} {m q : Nat} {qs : List ByteArray} (h : a.data.toList = Lib.decDigits m ++ 46 :: Lib.decDigits q) (hq : qs.map (fun b => b.data.toList) = pieces a.data.toList) : qs.map (fun b => b.data.toList) = [Lib.decDigits m, Lib.decDigits q] := by
  rw [hq, h, pieces_cut _ _ (dd_point m), pieces_one _ (dd_point q)]
set_option maxHeartbeats 8000000 in
theorem specLogRead_any (t : ByteArray) (w : World) (ht : t.size ≤ 1048576) :
    Calls Tryz.prog 11 #[.string t] w (LReadPost t w) := by
  have hnot : ∀ (x : Bool) (w : World), (Op.unary .not (.bool x)).run Tryz.prog w = .ok (.bool (!x)) w := fun _ _ => rfl
  have X0 := Lib.hid (box_new w #[.int .i64 0, .int .i64 0, .int .i64 0, .string ⟨#[]⟩, .string ⟨#[]⟩, .int .i64 0, .string ⟨#[]⟩] 26)
  have B0 := Lib.hid (Below.new (w := w) (.cells #[.int .i64 0, .int .i64 0, .int .i64 0, .string ⟨#[]⟩, .string ⟨#[]⟩, .int .i64 0, .string ⟨#[]⟩] 26))
  go_enter Tryz.func11, Tryz.ntmps11
  go_wp2_with fail
  refine (specOpen_any t _ ht).mono ?_
  rintro e w1 ⟨hb, h⟩
  have X1 := Lib.hid (X0.out.below hb X0.out.lt)
  have B1 := Lib.hid (B0.out.trans (hb.mono B0.out.size))
  clear hb X0 B0
  rcases h with ⟨s, hs, rfl⟩ | ⟨hs, rfl⟩
  case inr =>
    have HN := Lib.hid (lspells_none hs)
    clear hs
    go_wp2_with fail
    refine (l19Cut32_any ⟨#[]⟩ _ (by show 0 ≤ _; omega)).mono ?_
    rintro e w2 ⟨v, ps, rfl, _, hsl, _, hb, _, _⟩
    have X2 := Lib.hid (X1.out.below hb X1.out.lt)
    have B2 := Lib.hid (B1.out.trans (hb.mono B1.out.size))
    obtain ⟨_, A, c, rfl, _, _, _⟩ := hsl
    clear hb X1 B1
    have c0 := X2.out.cell 0 rfl
    have c1 := X2.out.cell 1 rfl
    have c2 := X2.out.cell 2 rfl
    have c3 := X2.out.cell 3 rfl
    have c4 := X2.out.cell 4 rfl
    have c5 := X2.out.cell 5 rfl
    have c6 := X2.out.cell 6 rfl
    have f0 := X2.out.open_ 0
    have f1 := X2.out.open_ 1
    have f2 := X2.out.open_ 2
    have f3 := X2.out.open_ 3
    have f4 := X2.out.open_ 4
    have f5 := X2.out.open_ 5
    have f6 := X2.out.open_ 6
    have XE := Lib.hid (show Box _ w.heap.size [.int .i64 0, .int .i64 0, .int .i64 0, .string ⟨#[]⟩, .string ⟨#[]⟩, .int .i64 0, .string ⟨#[]⟩] from (((((((X2.out.set 0 (.int .i64 0)).set 1 (.int .i64 0)).set 2 (.int .i64 0)).set 3 (.string ⟨#[]⟩)).set 4 (.string ⟨#[]⟩)).set 5 (.int .i64 0)).set 6 (.string ⟨#[]⟩)))
    have BE := Lib.hid (((((((B2.out.setCell (p := ⟨w.heap.size, 0, none⟩) (Nat.le_refl _) (.int .i64 0)).setCell (p := ⟨w.heap.size, 1, none⟩) (Nat.le_refl _) (.int .i64 0)).setCell (p := ⟨w.heap.size, 2, none⟩) (Nat.le_refl _) (.int .i64 0)).setCell (p := ⟨w.heap.size, 3, none⟩) (Nat.le_refl _) (.string ⟨#[]⟩)).setCell (p := ⟨w.heap.size, 4, none⟩) (Nat.le_refl _) (.string ⟨#[]⟩)).setCell (p := ⟨w.heap.size, 5, none⟩) (Nat.le_refl _) (.int .i64 0)).setCell (p := ⟨w.heap.size, 6, none⟩) (Nat.le_refl _) (.string ⟨#[]⟩))
    go_wp2
    have y0 := XE.out.cell 0 rfl
    have y1 := XE.out.cell 1 rfl
    have y2 := XE.out.cell 2 rfl
    have y3 := XE.out.cell 3 rfl
    have y4 := XE.out.cell 4 rfl
    have y5 := XE.out.cell 5 rfl
    have y6 := XE.out.cell 6 rfl
    refine bodyPost_ret (v := .tuple #[rv noRec, .bool false]) ?_ rfl ⟨BE.out, Or.inr ⟨HN.out, rfl⟩⟩
    simp [results, Tryz.results11, go_sem, y0, y1, y2, y3, y4, y5, y6]
  case inl =>
    have HO := Lib.hid hs
    have hs4 := opened_small hs
    clear hs
    go_wp2_with fail
    refine (l19Cut32_any s _ (by omega)).mono ?_
    rintro e w2 ⟨v, ps, rfl, hps, hsl, hlow, hb, _, hpz⟩
    have X2 := Lib.hid (X1.out.below hb X1.out.lt)
    have B2 := Lib.hid (B1.out.trans (hb.mono B1.out.size))
    have HPS := Lib.hid hps
    clear hb X1 B1 hps
    by_cases h5 : ps.length = 5
    case neg =>
      have HN := Lib.hid (lspells_no HO.out HPS.out h5)
      obtain ⟨_, A, c, rfl, hlc, hcm, _⟩ := hsl
      unfold maxLen at hcm
      have h5i : ((ps.length : Int) != 5) = true := by simp; omega
      clear h5
      have c0 := X2.out.cell 0 rfl
      have c1 := X2.out.cell 1 rfl
      have c2 := X2.out.cell 2 rfl
      have c3 := X2.out.cell 3 rfl
      have c4 := X2.out.cell 4 rfl
      have c5 := X2.out.cell 5 rfl
      have c6 := X2.out.cell 6 rfl
      have f0 := X2.out.open_ 0
      have f1 := X2.out.open_ 1
      have f2 := X2.out.open_ 2
      have f3 := X2.out.open_ 3
      have f4 := X2.out.open_ 4
      have f5 := X2.out.open_ 5
      have f6 := X2.out.open_ 6
      have XE := Lib.hid (show Box _ w.heap.size [.int .i64 0, .int .i64 0, .int .i64 0, .string ⟨#[]⟩, .string ⟨#[]⟩, .int .i64 0, .string ⟨#[]⟩] from (((((((X2.out.set 0 (.int .i64 0)).set 1 (.int .i64 0)).set 2 (.int .i64 0)).set 3 (.string ⟨#[]⟩)).set 4 (.string ⟨#[]⟩)).set 5 (.int .i64 0)).set 6 (.string ⟨#[]⟩)))
      have BE := Lib.hid (((((((B2.out.setCell (p := ⟨w.heap.size, 0, none⟩) (Nat.le_refl _) (.int .i64 0)).setCell (p := ⟨w.heap.size, 1, none⟩) (Nat.le_refl _) (.int .i64 0)).setCell (p := ⟨w.heap.size, 2, none⟩) (Nat.le_refl _) (.int .i64 0)).setCell (p := ⟨w.heap.size, 3, none⟩) (Nat.le_refl _) (.string ⟨#[]⟩)).setCell (p := ⟨w.heap.size, 4, none⟩) (Nat.le_refl _) (.string ⟨#[]⟩)).setCell (p := ⟨w.heap.size, 5, none⟩) (Nat.le_refl _) (.int .i64 0)).setCell (p := ⟨w.heap.size, 6, none⟩) (Nat.le_refl _) (.string ⟨#[]⟩))
      go_wp2
      have y0 := XE.out.cell 0 rfl
      have y1 := XE.out.cell 1 rfl
      have y2 := XE.out.cell 2 rfl
      have y3 := XE.out.cell 3 rfl
      have y4 := XE.out.cell 4 rfl
      have y5 := XE.out.cell 5 rfl
      have y6 := XE.out.cell 6 rfl
      refine bodyPost_ret (v := .tuple #[rv noRec, .bool false]) ?_ rfl ⟨BE.out, Or.inr ⟨HN.out, rfl⟩⟩
      simp [results, Tryz.results11, go_sem, y0, y1, y2, y3, y4, y5, y6]
    case pos =>
    have HL5 := Lib.hid h5
    obtain ⟨a0, a1, a2, a3, a4, rfl⟩ := list5 h5
    obtain ⟨b, off, c, rfl, hc3, hcm, g0, g1, g2, g3, g4⟩ := five_cells hsl HL5.out
    unfold maxLen at hcm
    have hbl : b < w2.heap.size := hlow b rfl
    have hp0 := hpz a0 (by simp)
    have hp1 := hpz a1 (by simp)
    have hp2 := hpz a2 (by simp)
    have hp3 := hpz a3 (by simp)
    have HAT := Lib.hid (fun r (h : LSpells t r) => rec_words_tell h.1 (lspells_at h HO.out HPS.out))
    clear HPS hsl hlow hpz h5 HL5 g4
    go_wp2_with fail
    refine (l19Cut_any a0 _ (by omega)).mono ?_
    rintro e w3 ⟨v, qs, rfl, hqs, hsl, hlow, hb, _, hqz⟩
    have X3 := Lib.hid (X2.out.below hb X2.out.lt)
    have B3 := Lib.hid (B2.out.trans (hb.mono B2.out.size))
    have HQS := Lib.hid hqs
    have k1 := (hb.cell hbl).trans g1
    have k2 := (hb.cell hbl).trans g2
    have k3 := (hb.cell hbl).trans g3
    have hbl3 := Nat.lt_of_lt_of_le hbl hb.size
    clear hb X2 B2 hqs g0 g1 g2 g3 hbl
    by_cases h2 : qs.length = 2
    case neg =>
      have HN := Lib.hid (show ∀ r, ¬ LSpells t r from fun r h => by
        obtain ⟨m, q, k, _, _, _, _, hm, _⟩ := HAT.out r h
        have := congrArg List.length (pieces_mark hm HQS.out)
        rw [List.length_map] at this
        exact h2 this)
      obtain ⟨_, A, c2, rfl, hlc, hcm2, _⟩ := hsl
      unfold maxLen at hcm2
      have h2i : ((qs.length : Int) != 2) = true := by simp; omega
      clear h2
      have c0 := X3.out.cell 0 rfl
      have c1 := X3.out.cell 1 rfl
      have c2 := X3.out.cell 2 rfl
      have c3 := X3.out.cell 3 rfl
      have c4 := X3.out.cell 4 rfl
      have c5 := X3.out.cell 5 rfl
      have c6 := X3.out.cell 6 rfl
      have f0 := X3.out.open_ 0
      have f1 := X3.out.open_ 1
      have f2 := X3.out.open_ 2
      have f3 := X3.out.open_ 3
      have f4 := X3.out.open_ 4
      have f5 := X3.out.open_ 5
      have f6 := X3.out.open_ 6
      have XE := Lib.hid (show Box _ w.heap.size [.int .i64 0, .int .i64 0, .int .i64 0, .string ⟨#[]⟩, .string ⟨#[]⟩, .int .i64 0, .string ⟨#[]⟩] from (((((((X3.out.set 0 (.int .i64 0)).set 1 (.int .i64 0)).set 2 (.int .i64 0)).set 3 (.string ⟨#[]⟩)).set 4 (.string ⟨#[]⟩)).set 5 (.int .i64 0)).set 6 (.string ⟨#[]⟩)))
      have BE := Lib.hid (((((((B3.out.setCell (p := ⟨w.heap.size, 0, none⟩) (Nat.le_refl _) (.int .i64 0)).setCell (p := ⟨w.heap.size, 1, none⟩) (Nat.le_refl _) (.int .i64 0)).setCell (p := ⟨w.heap.size, 2, none⟩) (Nat.le_refl _) (.int .i64 0)).setCell (p := ⟨w.heap.size, 3, none⟩) (Nat.le_refl _) (.string ⟨#[]⟩)).setCell (p := ⟨w.heap.size, 4, none⟩) (Nat.le_refl _) (.string ⟨#[]⟩)).setCell (p := ⟨w.heap.size, 5, none⟩) (Nat.le_refl _) (.int .i64 0)).setCell (p := ⟨w.heap.size, 6, none⟩) (Nat.le_refl _) (.string ⟨#[]⟩))
      go_wp2
      have y0 := XE.out.cell 0 rfl
      have y1 := XE.out.cell 1 rfl
      have y2 := XE.out.cell 2 rfl
      have y3 := XE.out.cell 3 rfl
      have y4 := XE.out.cell 4 rfl
      have y5 := XE.out.cell 5 rfl
      have y6 := XE.out.cell 6 rfl
      refine bodyPost_ret (v := .tuple #[rv noRec, .bool false]) ?_ rfl ⟨BE.out, Or.inr ⟨HN.out, rfl⟩⟩
      simp [results, Tryz.results11, go_sem, y0, y1, y2, y3, y4, y5, y6]
    case pos =>
    have HL2 := Lib.hid h2
    obtain ⟨d0, d1, rfl⟩ := list2 h2
    obtain ⟨b', off', c', rfl, hc2, hcm', e0, e1⟩ := two_cells hsl HL2.out
    unfold maxLen at hcm'
    have hq0 := hqz d0 (by simp)
    have hq1 := hqz d1 (by simp)
    have HAT2 := Lib.hid (show ∀ r, LSpells t r → ∃ m q k : Nat, r = ⟨(m : Int), (q : Int), 3, a1, noB, (k : Int), textOf a3⟩ ∧ m < 100000000 ∧ q < 100000000 ∧ k < 100000000 ∧ d0.data.toList = Lib.decDigits m ∧ d1.data.toList = Lib.decDigits q ∧ a2.data.toList = Lib.decDigits k from fun r h => by
      obtain ⟨m, q, k, hr, h1, h2, h3, hm, hk, _, _⟩ := HAT.out r h
      have := pieces_mark hm HQS.out
      simp only [List.map_cons, List.map_nil, List.cons.injEq, and_true] at this
      exact ⟨m, q, k, hr, h1, h2, h3, this.1, this.2, hk⟩)
    clear HAT HQS hsl hlow hqz h2 HL2
    go_wp2_with fail
    refine (l19Num_any d0 _ (by omega)).mono ?_
    rintro e w3' ⟨n0, b0, rfl, rfl, hn0⟩
    have HN0 := Lib.hid hn0
    clear hn0
    go_wp2_with fail
    refine (l19Num_any d1 _ (by omega)).mono ?_
    rintro e w3' ⟨n1, b1, rfl, rfl, hn1⟩
    have HN1 := Lib.hid hn1
    clear hn1
    go_wp2_with fail
    refine (l19Num_any a2 _ (by omega)).mono ?_
    rintro e w3' ⟨n2, b2, rfl, rfl, hn2⟩
    have HN2 := Lib.hid hn2
    clear hn2
    have HSAME := Lib.hid (show ∀ r, LSpells t r → r = ⟨n0, n1, 3, a1, noB, n2, textOf a3⟩ from fun r h => by
      obtain ⟨m, q, k, hr, h1, h2, h3, e1, e2, e3⟩ := HAT2.out r h
      rw [hr, (HN0.out m h1 e1).1, (HN1.out q h2 e2).1, (HN2.out k h3 e3).1])
    have htx := textOf_size a3
    have Y4 := Lib.hid (box_new w3 #[.int .i64 n0, .int .i64 n1, .int .i64 3, .string a1, .string ⟨#[]⟩, .int .i64 n2, .string ⟨#[]⟩] 26)
    have hn4 := Below.new (w := w3) (.cells #[.int .i64 n0, .int .i64 n1, .int .i64 3, .string a1, .string ⟨#[]⟩, .int .i64 n2, .string ⟨#[]⟩] 26)
    have X4 := Lib.hid (X3.out.below hn4 X3.out.lt)
    have B4 := Lib.hid (B3.out.trans (hn4.mono B3.out.size))
    have j3 := (hn4.cell hbl3).trans k3
    have hw3 : w.heap.size < w3.heap.size := X3.out.lt
    clear HAT2 HN0 HN1 HN2 hn4 X3 B3 k3
    by_cases hd : a3 = dashB
    case pos =>
      have HX := Lib.hid (show (⟨#[]⟩ : ByteArray) = textOf a3 from by unfold textOf; rw [if_pos hd])
      have hdq : (a3.toList == [45]) = true := by rw [hd, ByteArray.toList_eq]; rfl
      have hxs : (⟨#[]⟩ : ByteArray).size ≤ maxLen := Nat.zero_le _
      obtain ⟨R, HR⟩ : ∃ R, Hid (logText ⟨n0, n1, 3, a1, ⟨#[]⟩, n2, ⟨#[]⟩⟩ = R) := ⟨_, Lib.hid rfl⟩
      have HS2 := Lib.hid (show ∀ r, LSpells t r → r = ⟨n0, n1, 3, a1, ⟨#[]⟩, n2, ⟨#[]⟩⟩ from fun r h => by rw [HSAME.out r h, ← HX.out])
      clear HSAME HX hd htx
      have z0 := Y4.out.cell 0 rfl
      have z1 := Y4.out.cell 1 rfl
      have z2 := Y4.out.cell 2 rfl
      have z3 := Y4.out.cell 3 rfl
      have z4 := Y4.out.cell 4 rfl
      have z5 := Y4.out.cell 5 rfl
      have z6 := Y4.out.cell 6 rfl
      go_wp2_with fail
      refine (specLog_is ⟨n0, n1, 3, a1, ⟨#[]⟩, n2, ⟨#[]⟩⟩ R _ (by unfold maxLen; simp only; omega) hxs HR.out).mono ?_
      rintro e w5 ⟨rfl, hb⟩
      have X5 := Lib.hid (X4.out.below hb X4.out.lt)
      have Y5 := Lib.hid (Y4.out.below hb Y4.out.lt)
      have B5 := Lib.hid (B4.out.trans (hb.mono B4.out.size))
      clear hb X4 Y4 B4 z0 z1 z2 z3 z4 z5 z6
      by_cases hR : R = t
      case neg =>
        have HN := Lib.hid (show ∀ r, ¬ LSpells t r from fun r h => hR (by rw [← HR.out, ← HS2.out r h]; exact h.2))
        have hq := ne_text hR
        clear hR
        have c0 := X5.out.cell 0 rfl
        have c1 := X5.out.cell 1 rfl
        have c2 := X5.out.cell 2 rfl
        have c3 := X5.out.cell 3 rfl
        have c4 := X5.out.cell 4 rfl
        have c5 := X5.out.cell 5 rfl
        have c6 := X5.out.cell 6 rfl
        have f0 := X5.out.open_ 0
        have f1 := X5.out.open_ 1
        have f2 := X5.out.open_ 2
        have f3 := X5.out.open_ 3
        have f4 := X5.out.open_ 4
        have f5 := X5.out.open_ 5
        have f6 := X5.out.open_ 6
        have XE := Lib.hid (show Box _ w.heap.size [.int .i64 0, .int .i64 0, .int .i64 0, .string ⟨#[]⟩, .string ⟨#[]⟩, .int .i64 0, .string ⟨#[]⟩] from (((((((X5.out.set 0 (.int .i64 0)).set 1 (.int .i64 0)).set 2 (.int .i64 0)).set 3 (.string ⟨#[]⟩)).set 4 (.string ⟨#[]⟩)).set 5 (.int .i64 0)).set 6 (.string ⟨#[]⟩)))
        have BE := Lib.hid (((((((B5.out.setCell (p := ⟨w.heap.size, 0, none⟩) (Nat.le_refl _) (.int .i64 0)).setCell (p := ⟨w.heap.size, 1, none⟩) (Nat.le_refl _) (.int .i64 0)).setCell (p := ⟨w.heap.size, 2, none⟩) (Nat.le_refl _) (.int .i64 0)).setCell (p := ⟨w.heap.size, 3, none⟩) (Nat.le_refl _) (.string ⟨#[]⟩)).setCell (p := ⟨w.heap.size, 4, none⟩) (Nat.le_refl _) (.string ⟨#[]⟩)).setCell (p := ⟨w.heap.size, 5, none⟩) (Nat.le_refl _) (.int .i64 0)).setCell (p := ⟨w.heap.size, 6, none⟩) (Nat.le_refl _) (.string ⟨#[]⟩))
        go_wp2
        have y0 := XE.out.cell 0 rfl
        have y1 := XE.out.cell 1 rfl
        have y2 := XE.out.cell 2 rfl
        have y3 := XE.out.cell 3 rfl
        have y4 := XE.out.cell 4 rfl
        have y5 := XE.out.cell 5 rfl
        have y6 := XE.out.cell 6 rfl
        refine bodyPost_ret (v := .tuple #[rv noRec, .bool false]) ?_ rfl ⟨BE.out, Or.inr ⟨HN.out, rfl⟩⟩
        simp [results, Tryz.results11, go_sem, y0, y1, y2, y3, y4, y5, y6]
      case pos =>
        have HY := Lib.hid (lspells_of HO.out (HR.out.trans hR))
        subst hR
        have hq : (R.toList == R.toList) = true := by simp
        have z0 := Y5.out.cell 0 rfl
        have z1 := Y5.out.cell 1 rfl
        have z2 := Y5.out.cell 2 rfl
        have z3 := Y5.out.cell 3 rfl
        have z4 := Y5.out.cell 4 rfl
        have z5 := Y5.out.cell 5 rfl
        have z6 := Y5.out.cell 6 rfl
        have c0 := X5.out.cell 0 rfl
        have c1 := X5.out.cell 1 rfl
        have c2 := X5.out.cell 2 rfl
        have c3 := X5.out.cell 3 rfl
        have c4 := X5.out.cell 4 rfl
        have c5 := X5.out.cell 5 rfl
        have c6 := X5.out.cell 6 rfl
        have f0 := X5.out.open_ 0
        have f1 := X5.out.open_ 1
        have f2 := X5.out.open_ 2
        have f3 := X5.out.open_ 3
        have f4 := X5.out.open_ 4
        have f5 := X5.out.open_ 5
        have f6 := X5.out.open_ 6
        have XE := Lib.hid (show Box _ w.heap.size [.int .i64 n0, .int .i64 n1, .int .i64 3, .string a1, .string ⟨#[]⟩, .int .i64 n2, .string ⟨#[]⟩] from (((((((X5.out.set 0 (.int .i64 n0)).set 1 (.int .i64 n1)).set 2 (.int .i64 3)).set 3 (.string a1)).set 4 (.string ⟨#[]⟩)).set 5 (.int .i64 n2)).set 6 (.string ⟨#[]⟩)))
        have BE := Lib.hid (((((((B5.out.setCell (p := ⟨w.heap.size, 0, none⟩) (Nat.le_refl _) (.int .i64 n0)).setCell (p := ⟨w.heap.size, 1, none⟩) (Nat.le_refl _) (.int .i64 n1)).setCell (p := ⟨w.heap.size, 2, none⟩) (Nat.le_refl _) (.int .i64 3)).setCell (p := ⟨w.heap.size, 3, none⟩) (Nat.le_refl _) (.string a1)).setCell (p := ⟨w.heap.size, 4, none⟩) (Nat.le_refl _) (.string ⟨#[]⟩)).setCell (p := ⟨w.heap.size, 5, none⟩) (Nat.le_refl _) (.int .i64 n2)).setCell (p := ⟨w.heap.size, 6, none⟩) (Nat.le_refl _) (.string ⟨#[]⟩))
        go_wp2
        have y0 := XE.out.cell 0 rfl
        have y1 := XE.out.cell 1 rfl
        have y2 := XE.out.cell 2 rfl
        have y3 := XE.out.cell 3 rfl
        have y4 := XE.out.cell 4 rfl
        have y5 := XE.out.cell 5 rfl
        have y6 := XE.out.cell 6 rfl
        refine bodyPost_ret (v := .tuple #[rv ⟨n0, n1, 3, a1, ⟨#[]⟩, n2, ⟨#[]⟩⟩, .bool true]) ?_ rfl ⟨BE.out, Or.inl ⟨_, HY.out, rfl⟩⟩
        simp [results, Tryz.results11, go_sem, y0, y1, y2, y3, y4, y5, y6]
    case neg =>
      have hdq : (a3.toList == [45]) = false := by
        rw [beq_eq_false_iff_ne, ByteArray.toList_eq]
        exact fun e => hd (ByteArray.ext (Array.ext' e))
      have c6 := Y4.out.cell 6 rfl
      go_wp2_with fail
      refine (specUnhex_any a3 _ (by omega)).mono ?_
      rintro e w4 ⟨hb, h⟩
      have Y4b := Lib.hid (Y4.out.below hb Y4.out.lt)
      have X4b := Lib.hid (X4.out.below hb X4.out.lt)
      have B4b := Lib.hid (B4.out.trans (hb.mono B4.out.size))
      have hw4 : w3.heap.size < w4.heap.size := by have := hb.size; simp at this; omega
      clear hb X4 B4 Y4 c6
      obtain ⟨x, bx, HX, rfl⟩ : ∃ (x : ByteArray) (bx : Bool), Hid (x = textOf a3) ∧ e = .returned (.tuple #[.string x, .bool bx]) := by
        rcases h with ⟨o, ho, rfl⟩ | ⟨ho, rfl⟩
        · exact ⟨_, true, Lib.hid (textOf_some hd ho).symm, rfl⟩
        · exact ⟨_, false, Lib.hid (textOf_none hd ho).symm, rfl⟩
      have hxs : x.size ≤ maxLen := by rw [HX.out]; unfold maxLen; omega
      have c6 := Y4b.out.cell 6 rfl
      have f6 := Y4b.out.open_ 6
      have Y4c := Lib.hid (show Box _ w3.heap.size [.int .i64 n0, .int .i64 n1, .int .i64 3, .string a1, .string ⟨#[]⟩, .int .i64 n2, .string x] from Y4b.out.set 6 (.string x))
      have hs6 := (Below.refl w3.heap.size w4).setCell (p := ⟨w3.heap.size, 6, none⟩) (Nat.le_refl _) (.string x)
      have X4c := Lib.hid (X4b.out.below hs6 hw3)
      have B4c := Lib.hid (B4b.out.setCell (p := ⟨w3.heap.size, 6, none⟩) (by show w.heap.size ≤ w3.heap.size; omega) (.string x))
      obtain ⟨R, HR⟩ : ∃ R, Hid (logText ⟨n0, n1, 3, a1, ⟨#[]⟩, n2, x⟩ = R) := ⟨_, Lib.hid rfl⟩
      have HS2 := Lib.hid (show ∀ r, LSpells t r → r = ⟨n0, n1, 3, a1, ⟨#[]⟩, n2, x⟩ from fun r h => by rw [HSAME.out r h, HX.out])
      clear HSAME HX hd htx hs6 X4b B4b Y4b
      have z0 := Y4c.out.cell 0 rfl
      have z1 := Y4c.out.cell 1 rfl
      have z2 := Y4c.out.cell 2 rfl
      have z3 := Y4c.out.cell 3 rfl
      have z4 := Y4c.out.cell 4 rfl
      have z5 := Y4c.out.cell 5 rfl
      have z6 := Y4c.out.cell 6 rfl
      go_wp2_with fail
      refine (specLog_is ⟨n0, n1, 3, a1, ⟨#[]⟩, n2, x⟩ R _ (by unfold maxLen; simp only; omega) hxs HR.out).mono ?_
      rintro e w5 ⟨rfl, hb⟩
      have X5 := Lib.hid (X4c.out.below hb X4c.out.lt)
      have Y5 := Lib.hid (Y4c.out.below hb Y4c.out.lt)
      have B5 := Lib.hid (B4c.out.trans (hb.mono B4c.out.size))
      clear hb X4c Y4c B4c z0 z1 z2 z3 z4 z5 z6 c6 f6
      by_cases hR : R = t
      case neg =>
        have HN := Lib.hid (show ∀ r, ¬ LSpells t r from fun r h => hR (by rw [← HR.out, ← HS2.out r h]; exact h.2))
        have hq := ne_text hR
        clear hR
        have c0 := X5.out.cell 0 rfl
        have c1 := X5.out.cell 1 rfl
        have c2 := X5.out.cell 2 rfl
        have c3 := X5.out.cell 3 rfl
        have c4 := X5.out.cell 4 rfl
        have c5 := X5.out.cell 5 rfl
        have c6 := X5.out.cell 6 rfl
        have f0 := X5.out.open_ 0
        have f1 := X5.out.open_ 1
        have f2 := X5.out.open_ 2
        have f3 := X5.out.open_ 3
        have f4 := X5.out.open_ 4
        have f5 := X5.out.open_ 5
        have f6 := X5.out.open_ 6
        have XE := Lib.hid (show Box _ w.heap.size [.int .i64 0, .int .i64 0, .int .i64 0, .string ⟨#[]⟩, .string ⟨#[]⟩, .int .i64 0, .string ⟨#[]⟩] from (((((((X5.out.set 0 (.int .i64 0)).set 1 (.int .i64 0)).set 2 (.int .i64 0)).set 3 (.string ⟨#[]⟩)).set 4 (.string ⟨#[]⟩)).set 5 (.int .i64 0)).set 6 (.string ⟨#[]⟩)))
        have BE := Lib.hid (((((((B5.out.setCell (p := ⟨w.heap.size, 0, none⟩) (Nat.le_refl _) (.int .i64 0)).setCell (p := ⟨w.heap.size, 1, none⟩) (Nat.le_refl _) (.int .i64 0)).setCell (p := ⟨w.heap.size, 2, none⟩) (Nat.le_refl _) (.int .i64 0)).setCell (p := ⟨w.heap.size, 3, none⟩) (Nat.le_refl _) (.string ⟨#[]⟩)).setCell (p := ⟨w.heap.size, 4, none⟩) (Nat.le_refl _) (.string ⟨#[]⟩)).setCell (p := ⟨w.heap.size, 5, none⟩) (Nat.le_refl _) (.int .i64 0)).setCell (p := ⟨w.heap.size, 6, none⟩) (Nat.le_refl _) (.string ⟨#[]⟩))
        go_wp2
        have y0 := XE.out.cell 0 rfl
        have y1 := XE.out.cell 1 rfl
        have y2 := XE.out.cell 2 rfl
        have y3 := XE.out.cell 3 rfl
        have y4 := XE.out.cell 4 rfl
        have y5 := XE.out.cell 5 rfl
        have y6 := XE.out.cell 6 rfl
        refine bodyPost_ret (v := .tuple #[rv noRec, .bool false]) ?_ rfl ⟨BE.out, Or.inr ⟨HN.out, rfl⟩⟩
        simp [results, Tryz.results11, go_sem, y0, y1, y2, y3, y4, y5, y6]
      case pos =>
        have HY := Lib.hid (lspells_of HO.out (HR.out.trans hR))
        subst hR
        have hq : (R.toList == R.toList) = true := by simp
        have z0 := Y5.out.cell 0 rfl
        have z1 := Y5.out.cell 1 rfl
        have z2 := Y5.out.cell 2 rfl
        have z3 := Y5.out.cell 3 rfl
        have z4 := Y5.out.cell 4 rfl
        have z5 := Y5.out.cell 5 rfl
        have z6 := Y5.out.cell 6 rfl
        have c0 := X5.out.cell 0 rfl
        have c1 := X5.out.cell 1 rfl
        have c2 := X5.out.cell 2 rfl
        have c3 := X5.out.cell 3 rfl
        have c4 := X5.out.cell 4 rfl
        have c5 := X5.out.cell 5 rfl
        have c6 := X5.out.cell 6 rfl
        have f0 := X5.out.open_ 0
        have f1 := X5.out.open_ 1
        have f2 := X5.out.open_ 2
        have f3 := X5.out.open_ 3
        have f4 := X5.out.open_ 4
        have f5 := X5.out.open_ 5
        have f6 := X5.out.open_ 6
        have XE := Lib.hid (show Box _ w.heap.size [.int .i64 n0, .int .i64 n1, .int .i64 3, .string a1, .string ⟨#[]⟩, .int .i64 n2, .string x] from (((((((X5.out.set 0 (.int .i64 n0)).set 1 (.int .i64 n1)).set 2 (.int .i64 3)).set 3 (.string a1)).set 4 (.string ⟨#[]⟩)).set 5 (.int .i64 n2)).set 6 (.string x)))
        have BE := Lib.hid (((((((B5.out.setCell (p := ⟨w.heap.size, 0, none⟩) (Nat.le_refl _) (.int .i64 n0)).setCell (p := ⟨w.heap.size, 1, none⟩) (Nat.le_refl _) (.int .i64 n1)).setCell (p := ⟨w.heap.size, 2, none⟩) (Nat.le_refl _) (.int .i64 3)).setCell (p := ⟨w.heap.size, 3, none⟩) (Nat.le_refl _) (.string a1)).setCell (p := ⟨w.heap.size, 4, none⟩) (Nat.le_refl _) (.string ⟨#[]⟩)).setCell (p := ⟨w.heap.size, 5, none⟩) (Nat.le_refl _) (.int .i64 n2)).setCell (p := ⟨w.heap.size, 6, none⟩) (Nat.le_refl _) (.string x))
        go_wp2
        have y0 := XE.out.cell 0 rfl
        have y1 := XE.out.cell 1 rfl
        have y2 := XE.out.cell 2 rfl
        have y3 := XE.out.cell 3 rfl
        have y4 := XE.out.cell 4 rfl
        have y5 := XE.out.cell 5 rfl
        have y6 := XE.out.cell 6 rfl
        refine bodyPost_ret (v := .tuple #[rv ⟨n0, n1, 3, a1, ⟨#[]⟩, n2, x⟩, .bool true]) ?_ rfl ⟨BE.out, Or.inl ⟨_, HY.out, rfl⟩⟩
        simp [results, Tryz.results11, go_sem, y0, y1, y2, y3, y4, y5, y6]
end Go.Proofs.YtgjlhokakcdpbaaGreatDoor
