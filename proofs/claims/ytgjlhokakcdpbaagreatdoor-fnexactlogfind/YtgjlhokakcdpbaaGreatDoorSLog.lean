/-
  spec's LogText.
-/
import Derived.Test.YtgjlhokakcdpbaaGreatDoorLogM
import Derived.Deep.RegionHeld3
set_option maxRecDepth 100000
namespace Go.Proofs.YtgjlhokakcdpbaaGreatDoor
open Go.ChangeShapes Go.WideShapes Go.ChangeAt Go.RowKit Go.Proofs.Palim

/-- Two words with a point between them. -/
theorem two_add (t1 t2 : ByteArray) (h1 : t1.size ≤ 1000) (h2 : t2.size ≤ 1000) :
    (∀ w, (Op.stringOp .add t1 dotB).run Tryz.prog w = .ok (.string (t1 ++ dotB)) w) ∧ (∀ w, (Op.stringOp .add (t1 ++ dotB) t2).run Tryz.prog w = .ok (.string (t1 ++ dotB ++ t2)) w) := by
  have zd : dotB.size = 1 := rfl
  exact ⟨add_str _ _ (by omega), add_str _ _ (by rw [ByteArray.size_append]; omega)⟩
theorem six_box (w : World) (r : RecM) (t u : Nat) : let W := (w.alloc (.cells #[.int .i64 r.txg, .int .i64 r.seq, .int .i64 r.kind, .string r.a, .string r.b, .int .i64 r.i, .string r.text] t)).alloc (.cells #[.int .i64 r.kind, .string r.a, .string r.b, .int .i64 r.i, .string r.text] u)
    Box W w.heap.size (rcs r) ∧ Box W (w.heap.size + 1) [.int .i64 r.kind, .string r.a, .string r.b, .int .i64 r.i, .string r.text] := by
  intro W
  have h1 := box_new w #[.int .i64 r.txg, .int .i64 r.seq, .int .i64 r.kind, .string r.a, .string r.b, .int .i64 r.i, .string r.text] t
  have h2 := box_new (w.alloc (.cells #[.int .i64 r.txg, .int .i64 r.seq, .int .i64 r.kind, .string r.a, .string r.b, .int .i64 r.i, .string r.text] t)) #[.int .i64 r.kind, .string r.a, .string r.b, .int .i64 r.i, .string r.text] u
  refine ⟨h1.alloc _, ?_⟩
  have e : (w.alloc (.cells #[.int .i64 r.txg, .int .i64 r.seq, .int .i64 r.kind, .string r.a, .string r.b, .int .i64 r.i, .string r.text] t)).heap.size = w.heap.size + 1 := by simp
  rw [e] at h2
  exact h2

set_option maxHeartbeats 4000000 in
theorem specLog_any (r : RecM) (w : World) (hza : r.a.size ≤ maxLen) (hzt : r.text.size ≤ maxLen) :
    Calls Tryz.prog 9 #[rv r] w fun e w' => e = .returned (.string (logText r)) ∧ Below w.heap.size w w' := by
  have hnot : ∀ (x : Bool) (w : World), (Op.unary .not (.bool x)).run Tryz.prog w = .ok (.bool (!x)) w := fun _ _ => rfl
  obtain ⟨R, HR⟩ : ∃ R, Hid (logText r = R) := ⟨_, Lib.hid rfl⟩
  rw [HR.out]
  have HN := Lib.hid (show ¬ RecOk r → noB = R from fun h => by rw [← HR.out, log_of_no h])
  obtain ⟨hx1, hx2⟩ := six_box w r 26 24
  have X1 := Lib.hid hx1
  have X2 := Lib.hid hx2
  clear hx1 hx2
  have B0 := Lib.hid (((Below.refl _ w).alloc (Nat.le_refl _) (.cells #[.int .i64 r.txg, .int .i64 r.seq, .int .i64 r.kind, .string r.a, .string r.b, .int .i64 r.i, .string r.text] 26)).alloc (by simp) (.cells #[.int .i64 r.kind, .string r.a, .string r.b, .int .i64 r.i, .string r.text] 24))
  unfold maxLen at hza hzt
  by_cases h1 : r.txg < 1
  · have HF := Lib.hid (HN.out (fun c => by have := c.1.1; omega))
    clear HN HR X1 X2
    go_enter Tryz.func9, Tryz.ntmps9
    go_wp2
    go_ret
    exact ⟨ret_s HF.out, B0.out⟩
  by_cases h2 : r.txg > 1000000
  · have HF := Lib.hid (HN.out (fun c => by have := c.1.2.1; omega))
    clear HN HR X1 X2
    go_enter Tryz.func9, Tryz.ntmps9
    go_wp2
    go_ret
    exact ⟨ret_s HF.out, B0.out⟩
  by_cases h3 : r.seq < 0
  · have HF := Lib.hid (HN.out (fun c => by have := c.1.2.2.1; omega))
    clear HN HR X1 X2
    go_enter Tryz.func9, Tryz.ntmps9
    go_wp2
    go_ret
    exact ⟨ret_s HF.out, B0.out⟩
  by_cases h4 : r.seq ≥ 8
  · have HF := Lib.hid (HN.out (fun c => by have := c.1.2.2.2; omega))
    clear HN HR X1 X2
    go_enter Tryz.func9, Tryz.ntmps9
    go_wp2
    go_ret
    exact ⟨ret_s HF.out, B0.out⟩
  by_cases h5 : r.kind = 3
  case neg =>
    have HF := Lib.hid (HN.out (fun c => h5 c.2.1))
    have hq : ((r.kind : Int) != 3) = true := by simpa using h5
    clear HN HR X1 X2
    go_enter Tryz.func9, Tryz.ntmps9
    go_wp2
    go_ret
    exact ⟨ret_s HF.out, B0.out⟩
  case pos =>
  have hq : ((r.kind : Int) != 3) = false := by simpa using h5
  have H5k := Lib.hid h5
  clear h5
  by_cases h6 : NameOk r.a
  case neg =>
    have HF := Lib.hid (HN.out (fun c => h6 c.2.2.1))
    clear HN HR X1 X2
    go_enter Tryz.func9, Tryz.ntmps9
    go_wp2_with fail
    refine (nameD_is _ _ false (by unfold maxLen; omega) (decide_eq_false h6)).mono ?_
    rintro e w1 ⟨rfl, rfl⟩
    go_wp2
    go_ret
    exact ⟨ret_s HF.out, B0.out⟩
  case pos =>
  by_cases h7 : ¬ r.b.size = 0
  · have HF := Lib.hid (HN.out (fun c => by have := c.2.2.2.1; omega))
    have hb0 := empty_no h7
    clear HN HR X1 X2
    go_enter Tryz.func9, Tryz.ntmps9
    go_wp2_with fail
    refine (nameD_is _ _ true (by unfold maxLen; omega) (decide_eq_true h6)).mono ?_
    rintro e w1 ⟨rfl, rfl⟩
    go_wp2
    go_ret
    exact ⟨ret_s HF.out, B0.out⟩
  have h7' : r.b.size = 0 := by omega
  have hb0 := empty_yes h7'
  by_cases h8 : r.i < 0
  · have HF := Lib.hid (HN.out (fun c => by have := c.2.2.2.2.1; omega))
    clear HN HR X1 X2
    go_enter Tryz.func9, Tryz.ntmps9
    go_wp2_with fail
    refine (nameD_is _ _ true (by unfold maxLen; omega) (decide_eq_true h6)).mono ?_
    rintro e w1 ⟨rfl, rfl⟩
    go_wp2
    go_ret
    exact ⟨ret_s HF.out, B0.out⟩
  by_cases h9 : r.i ≥ 8
  · have HF := Lib.hid (HN.out (fun c => by have := c.2.2.2.2.1; omega))
    clear HN HR X1 X2
    go_enter Tryz.func9, Tryz.ntmps9
    go_wp2_with fail
    refine (nameD_is _ _ true (by unfold maxLen; omega) (decide_eq_true h6)).mono ?_
    rintro e w1 ⟨rfl, rfl⟩
    go_wp2
    go_ret
    exact ⟨ret_s HF.out, B0.out⟩
  by_cases h10 : (r.text.size : Int) > 24
  · have HF := Lib.hid (HN.out (fun c => by have := c.2.2.2.2.2; omega))
    clear HN HR X1 X2
    go_enter Tryz.func9, Tryz.ntmps9
    go_wp2_with fail
    refine (nameD_is _ _ true (by unfold maxLen; omega) (decide_eq_true h6)).mono ?_
    rintro e w1 ⟨rfl, rfl⟩
    go_wp2
    go_ret
    exact ⟨ret_s HF.out, B0.out⟩
  have hok : RecOk r := ⟨⟨by omega, by omega, by omega, by omega⟩, H5k.out, h6, h7', ⟨by omega, by omega⟩, by omega⟩
  have HT := Lib.hid (show sealB (logB r) = R from by rw [← HR.out, log_of_ok hok])
  obtain ⟨t1, H1⟩ : ∃ t, Hid (decB r.txg = t) := ⟨_, Lib.hid rfl⟩
  obtain ⟨t2, H2⟩ : ∃ t, Hid (decB r.seq = t) := ⟨_, Lib.hid rfl⟩
  obtain ⟨t3, H3⟩ : ∃ t, Hid (decB r.i = t) := ⟨_, Lib.hid rfl⟩
  obtain ⟨t4, H4⟩ : ∃ t, Hid (hexW r.text = t) := ⟨_, Lib.hid rfl⟩
  have z1 : t1.size ≤ 21 := by rw [← H1.out]; exact (decB_size _ (by omega) (by omega)).2
  have z2 : t2.size ≤ 21 := by rw [← H2.out]; exact (decB_size _ (by omega) (by omega)).2
  have z3 : t3.size ≤ 21 := by rw [← H3.out]; exact (decB_size _ (by omega) (by omega)).2
  have z4 : t4.size ≤ 49 := by rw [← H4.out]; have := (hexW_size r.text).2; omega
  have za : r.a.size ≤ 6 := h6.2.1
  have zd : dotB.size = 1 := rfl
  have zb : blB.size = 1 := rfl
  obtain ⟨m, HM⟩ : ∃ m, Hid (t1 ++ dotB ++ t2 = m) := ⟨_, Lib.hid rfl⟩
  have zm : m.size ≤ 43 := by rw [← HM.out, ByteArray.size_append, ByteArray.size_append]; omega
  have HL := Lib.hid (show logB r = m ++ blB ++ r.a ++ blB ++ t3 ++ blB ++ t4 ++ blB ++ m from by
    unfold logB logWs
    rw [joinB_five, markW_ok hok.1, show nameW r.a = r.a from if_pos h6, show blockW r.i = decB r.i from if_pos hok.2.2.2.2.1, show bytesW r.text = hexW r.text from if_neg (by omega), H1.out, H2.out, H3.out, H4.out, HM.out])
  rw [HL.out] at HT
  obtain ⟨k1, k2⟩ := two_add t1 t2 (by omega) (by omega)
  rw [HM.out] at k2
  have a1 : ∀ w, (Op.stringOp .add m blB).run Tryz.prog w = .ok (.string (m ++ blB)) w := add_str _ _ (by omega)
  have a2 : ∀ w, (Op.stringOp .add (m ++ blB) r.a).run Tryz.prog w = .ok (.string (m ++ blB ++ r.a)) w := add_str _ _ (by (try simp only [ByteArray.size_append]); omega)
  have a3 : ∀ w, (Op.stringOp .add (m ++ blB ++ r.a) blB).run Tryz.prog w = .ok (.string (m ++ blB ++ r.a ++ blB)) w := add_str _ _ (by (try simp only [ByteArray.size_append]); omega)
  have a4 : ∀ w, (Op.stringOp .add (m ++ blB ++ r.a ++ blB) t3).run Tryz.prog w = .ok (.string (m ++ blB ++ r.a ++ blB ++ t3)) w := add_str _ _ (by (try simp only [ByteArray.size_append]); omega)
  have a5 : ∀ w, (Op.stringOp .add (m ++ blB ++ r.a ++ blB ++ t3) blB).run Tryz.prog w = .ok (.string (m ++ blB ++ r.a ++ blB ++ t3 ++ blB)) w := add_str _ _ (by (try simp only [ByteArray.size_append]); omega)
  have a6 : ∀ w, (Op.stringOp .add (m ++ blB ++ r.a ++ blB ++ t3 ++ blB) t4).run Tryz.prog w = .ok (.string (m ++ blB ++ r.a ++ blB ++ t3 ++ blB ++ t4)) w := add_str _ _ (by (try simp only [ByteArray.size_append]); omega)
  have a7 : ∀ w, (Op.stringOp .add (m ++ blB ++ r.a ++ blB ++ t3 ++ blB ++ t4) blB).run Tryz.prog w = .ok (.string (m ++ blB ++ r.a ++ blB ++ t3 ++ blB ++ t4 ++ blB)) w := add_str _ _ (by (try simp only [ByteArray.size_append]); omega)
  have a8 : ∀ w, (Op.stringOp .add (m ++ blB ++ r.a ++ blB ++ t3 ++ blB ++ t4 ++ blB) m).run Tryz.prog w = .ok (.string (m ++ blB ++ r.a ++ blB ++ t3 ++ blB ++ t4 ++ blB ++ m)) w := add_str _ _ (by (try simp only [ByteArray.size_append]); omega)
  have hsz : (m ++ blB ++ r.a ++ blB ++ t3 ++ blB ++ t4 ++ blB ++ m).size ≤ 1000000 := by simp only [ByteArray.size_append]; omega
  obtain ⟨t5, H5⟩ : ∃ t, Hid (hexB r.text = t) := ⟨_, Lib.hid rfl⟩
  have H45 := Lib.hid (show (r.text.size = 0 → t5.size = 0 ∧ t4 = dashB) ∧ (¬ r.text.size = 0 → ¬ t5.size = 0 ∧ t4 = t5) from by
    have e := hexB_size r.text
    rw [H5.out] at e
    refine ⟨fun h => ⟨by omega, by rw [← H4.out]; exact if_pos h⟩, fun h => ⟨by omega, by rw [← H4.out, ← H5.out]; exact if_neg h⟩⟩)
  clear HN HR HL hok
  go_enter Tryz.func9, Tryz.ntmps9
  go_wp2_with fail
  refine (nameD_is _ _ true (by unfold maxLen; omega) (decide_eq_true h6)).mono ?_
  rintro e w1 ⟨rfl, rfl⟩
  clear h6
  go_wp2_with fail
  refine (hexD_is _ t5 _ (by omega) H5.out).mono ?_
  rintro e w1 ⟨rfl, hb⟩
  have Y1 := Lib.hid (X1.out.below hb X1.out.lt)
  have Y2 := Lib.hid (X2.out.below hb X2.out.lt)
  have B1 := Lib.hid (B0.out.trans (hb.mono B0.out.size))
  have hw1 : w.heap.size + 2 ≤ w1.heap.size := by have := hb.size; simp at this; omega
  clear hb X1 X2 B0
  by_cases ht : r.text.size = 0
  case pos =>
    obtain ⟨g0, g1⟩ := H45.out.1 ht
    have he := empty_yes g0
    subst g1
    clear H45 H5 g0
    have x0 := Y1.out.cell 0 rfl
    have x1 := Y1.out.cell 1 rfl
    have y1 := Y2.out.cell 1 rfl
    have y3 := Y2.out.cell 3 rfl
    clear ht
    go_wp2_with fail
    go_region_held3 (fun w' => w.heap.size + 2 ≤ w'.heap.size ∧ w'.cell? ⟨w.heap.size, 0, none⟩ = some (.int .i64 r.txg) ∧ w'.cell? ⟨w.heap.size, 1, none⟩ = some (.int .i64 r.seq))
      (first
        | exact ⟨by simp; omega, x0, x1⟩
        | (go_split_ands
           refine ⟨Nat.le_trans (by assumption) hb3.size, ?_, ?_⟩
           all_goals (rw [hb3.cell (by simp <;> omega)]; assumption))
        | (go_split_ands
           refine ⟨Nat.le_trans (by assumption) hb2.size, ?_, ?_⟩
           all_goals (rw [hb2.cell (by simp <;> omega)]; assumption)))
      (first
        | (go_at_call 44; ((with_reducible refine (decIs r.txg _ (by omega) (by omega) t1 H1.out).mono ?_); rintro e w2 ⟨rfl, hb2⟩))
        | (go_at_call 44; ((with_reducible refine (decIs r.seq _ (by omega) (by omega) t2 H2.out).mono ?_); rintro e w3 ⟨rfl, hb3⟩)))
    have hb23 : Below w1.heap.size w1 w3 := (((Below.refl _ w1).drew).trans (hb2.mono (Nat.le_refl _))).trans (hb3.mono hb2.size)
    have Z2 := Lib.hid (Y2.out.below hb23 Y2.out.lt)
    have B3 := Lib.hid (B1.out.trans (hb23.mono B1.out.size))
    have hw3 : w.heap.size + 2 ≤ w3.heap.size := by have := hb23.size; omega
    clear hb2 hb3 hb23 x0 x1 Y1 Y2 y1 y3 B1 hw1
    have y1 := Z2.out.cell 1 rfl
    have y3 := Z2.out.cell 3 rfl
    go_wp2_with fail
    go_region_held3 (fun w' => w.heap.size + 2 ≤ w'.heap.size ∧ w'.cell? ⟨w.heap.size + 1, 1, none⟩ = some (.string r.a) ∧ w'.cell? ⟨w.heap.size + 1, 3, none⟩ = some (.int .i64 r.i))
      (first
        | exact ⟨by simp; omega, y1, y3⟩
        | (go_split_ands
           refine ⟨Nat.le_trans (by assumption) hb5.size, ?_, ?_⟩
           all_goals (rw [hb5.cell (by simp <;> omega)]; assumption))
        | (go_split_ands
           refine ⟨Nat.le_trans (by assumption) hb4.size, ?_, ?_⟩
           all_goals (rw [hb4.cell (by simp <;> omega)]; assumption)))
      (first
        | (go_at_call 45; ((with_reducible refine (sealD_is _ R _ hsz HT.out).mono ?_); rintro e w5 ⟨rfl, hb5⟩))
        | (go_at_call 44; ((with_reducible refine (decIs r.i _ (by omega) (by omega) t3 H3.out).mono ?_); rintro e w4 ⟨rfl, hb4⟩)))
    have hb45 : Below w3.heap.size w3 w5 := (((Below.refl _ w3).drew).trans (hb4.mono (Nat.le_refl _))).trans (hb5.mono hb4.size)
    have B5 := Lib.hid (B3.out.trans (hb45.mono B3.out.size))
    clear hb4 hb5 hb45 y1 y3 B3 Z2
    go_wp2
    go_ret
    exact ⟨rfl, B5.out⟩
  case neg =>
    obtain ⟨g0, g1⟩ := H45.out.2 ht
    have he := empty_no g0
    subst g1
    clear H45 H5 g0
    have x0 := Y1.out.cell 0 rfl
    have x1 := Y1.out.cell 1 rfl
    have y1 := Y2.out.cell 1 rfl
    have y3 := Y2.out.cell 3 rfl
    clear ht
    go_wp2_with fail
    go_region_held3 (fun w' => w.heap.size + 2 ≤ w'.heap.size ∧ w'.cell? ⟨w.heap.size, 0, none⟩ = some (.int .i64 r.txg) ∧ w'.cell? ⟨w.heap.size, 1, none⟩ = some (.int .i64 r.seq))
      (first
        | exact ⟨by simp; omega, x0, x1⟩
        | (go_split_ands
           refine ⟨Nat.le_trans (by assumption) hb3.size, ?_, ?_⟩
           all_goals (rw [hb3.cell (by simp <;> omega)]; assumption))
        | (go_split_ands
           refine ⟨Nat.le_trans (by assumption) hb2.size, ?_, ?_⟩
           all_goals (rw [hb2.cell (by simp <;> omega)]; assumption)))
      (first
        | (go_at_call 44; ((with_reducible refine (decIs r.txg _ (by omega) (by omega) t1 H1.out).mono ?_); rintro e w2 ⟨rfl, hb2⟩))
        | (go_at_call 44; ((with_reducible refine (decIs r.seq _ (by omega) (by omega) t2 H2.out).mono ?_); rintro e w3 ⟨rfl, hb3⟩)))
    have hb23 : Below w1.heap.size w1 w3 := (((Below.refl _ w1).drew).trans (hb2.mono (Nat.le_refl _))).trans (hb3.mono hb2.size)
    have Z2 := Lib.hid (Y2.out.below hb23 Y2.out.lt)
    have B3 := Lib.hid (B1.out.trans (hb23.mono B1.out.size))
    have hw3 : w.heap.size + 2 ≤ w3.heap.size := by have := hb23.size; omega
    clear hb2 hb3 hb23 x0 x1 Y1 Y2 y1 y3 B1 hw1
    have y1 := Z2.out.cell 1 rfl
    have y3 := Z2.out.cell 3 rfl
    go_wp2_with fail
    go_region_held3 (fun w' => w.heap.size + 2 ≤ w'.heap.size ∧ w'.cell? ⟨w.heap.size + 1, 1, none⟩ = some (.string r.a) ∧ w'.cell? ⟨w.heap.size + 1, 3, none⟩ = some (.int .i64 r.i))
      (first
        | exact ⟨by simp; omega, y1, y3⟩
        | (go_split_ands
           refine ⟨Nat.le_trans (by assumption) hb5.size, ?_, ?_⟩
           all_goals (rw [hb5.cell (by simp <;> omega)]; assumption))
        | (go_split_ands
           refine ⟨Nat.le_trans (by assumption) hb4.size, ?_, ?_⟩
           all_goals (rw [hb4.cell (by simp <;> omega)]; assumption)))
      (first
        | (go_at_call 45; ((with_reducible refine (sealD_is _ R _ hsz HT.out).mono ?_); rintro e w5 ⟨rfl, hb5⟩))
        | (go_at_call 44; ((with_reducible refine (decIs r.i _ (by omega) (by omega) t3 H3.out).mono ?_); rintro e w4 ⟨rfl, hb4⟩)))
    have hb45 : Below w3.heap.size w3 w5 := (((Below.refl _ w3).drew).trans (hb4.mono (Nat.le_refl _))).trans (hb5.mono hb4.size)
    have B5 := Lib.hid (B3.out.trans (hb45.mono B3.out.size))
    clear hb4 hb5 hb45 y1 y3 B3 Z2
    go_wp2
    go_ret
    exact ⟨rfl, B5.out⟩
theorem specLog_is (r : RecM) (t : ByteArray) (w : World) (hza : r.a.size ≤ maxLen) (hzt : r.text.size ≤ maxLen) (ht : logText r = t) :
    Calls Tryz.prog 9 #[rv r] w fun e w' => e = .returned (.string t) ∧ Below w.heap.size w w' := ht ▸ specLog_any r w hza hzt
end Go.Proofs.YtgjlhokakcdpbaaGreatDoor
