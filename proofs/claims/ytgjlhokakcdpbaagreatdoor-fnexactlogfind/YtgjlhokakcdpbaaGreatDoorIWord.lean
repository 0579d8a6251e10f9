/-
  impl's words of a record.
-/
import Derived.Test.YtgjlhokakcdpbaaGreatDoorLogM
import Derived.Test.YtgjlhokakcdpbaaGreatDoorUnhex
import Derived.Deep.RegionHeld3
set_option maxRecDepth 100000
namespace Go.Proofs.YtgjlhokakcdpbaaGreatDoor
open Go.ChangeShapes Go.WideShapes Go.ChangeAt Go.RowKit Go.Proofs.Palim

theorem dot_add (t1 t2 : ByteArray) (h1 : t1.size ≤ 1000) (h2 : t2.size ≤ 1000) :
    (∀ w, (Op.stringOp .add t1 dotB).run Tryz.prog w = .ok (.string (t1 ++ dotB)) w) ∧ (∀ w, (Op.stringOp .add (t1 ++ dotB) t2).run Tryz.prog w = .ok (.string (t1 ++ dotB ++ t2)) w) := by
  have zd : dotB.size = 1 := rfl
  exact ⟨add_str _ _ (by omega), add_str _ _ (by rw [ByteArray.size_append]; omega)⟩
set_option maxHeartbeats 1000000 in
theorem markWord_is (t q : Int) (R : ByteArray) (w : World) (hp : HasPow w) (hr : markW t q = R) :
    Calls Tryz.prog 284 #[.agg #[.int .i64 t, .int .i64 q]] w fun e w' => e = .returned (.string R) ∧ Below w.heap.size w w' := by
  have HN := Lib.hid (show ¬ MarkOk t q → noB = R from fun h => by rw [← hr, markW_no h])
  have HR := Lib.hid hr
  have X := Lib.hid (box_new w #[.int .i64 t, .int .i64 q] 149)
  have B0 := Lib.hid (Below.new (w := w) (.cells #[.int .i64 t, .int .i64 q] 149))
  have hpw := hp.lt
  have HP := Lib.hid hp
  clear hr hp
  by_cases h1 : t < 1
  · have HF := Lib.hid (HN.out (fun c => by have := c.1; omega))
    clear HN HR X
    go_enter Tryz.func284, Tryz.ntmps284
    go_wp2
    go_ret
    exact ⟨ret_s HF.out, B0.out⟩
  by_cases h2 : t > 1000000
  · have HF := Lib.hid (HN.out (fun c => by have := c.2.1; omega))
    clear HN HR X
    go_enter Tryz.func284, Tryz.ntmps284
    go_wp2
    go_ret
    exact ⟨ret_s HF.out, B0.out⟩
  by_cases h3 : q < 0
  · have HF := Lib.hid (HN.out (fun c => by have := c.2.2.1; omega))
    clear HN HR X
    go_enter Tryz.func284, Tryz.ntmps284
    go_wp2
    go_ret
    exact ⟨ret_s HF.out, B0.out⟩
  by_cases h4 : q ≥ 8
  · have HF := Lib.hid (HN.out (fun c => by have := c.2.2.2; omega))
    clear HN HR X
    go_enter Tryz.func284, Tryz.ntmps284
    go_wp2
    go_ret
    exact ⟨ret_s HF.out, B0.out⟩
  have hok : MarkOk t q := ⟨by omega, by omega, by omega, by omega⟩
  have HT := Lib.hid (show decB t ++ dotB ++ decB q = R from by rw [← HR.out, markW_ok hok])
  obtain ⟨t1, H1⟩ : ∃ x, Hid (decB t = x) := ⟨_, Lib.hid rfl⟩
  obtain ⟨t2, H2⟩ : ∃ x, Hid (decB q = x) := ⟨_, Lib.hid rfl⟩
  rw [H1.out, H2.out] at HT
  have z1 : t1.size ≤ 21 := by rw [← H1.out]; exact (decB_size _ (by omega) (by omega)).2
  have z2 : t2.size ≤ 21 := by rw [← H2.out]; exact (decB_size _ (by omega) (by omega)).2
  obtain ⟨k1, k2⟩ := dot_add t1 t2 (by omega) (by omega)
  rw [HT.out] at k2
  have P0 := Lib.hid (HP.out.below B0.out hpw)
  have x0 := X.out.cell 0 rfl
  have x1 := X.out.cell 1 rfl
  clear HN HR hok HT
  go_enter Tryz.func284, Tryz.ntmps284
  go_wp2_with fail
  go_region_held3 (fun w' => w.heap.size + 1 ≤ w'.heap.size ∧ HasPow w' ∧ w'.cell? ⟨w.heap.size, 0, none⟩ = some (.int .i64 t) ∧ w'.cell? ⟨w.heap.size, 1, none⟩ = some (.int .i64 q))
    (first
      | exact ⟨by simp, P0.out.below ((Below.refl _ _).drew) P0.out.lt, x0, x1⟩
      | (go_split_ands
         refine ⟨Nat.le_trans (by assumption) hb3.size, HasPow.below (by assumption) hb3 (by omega), ?_, ?_⟩
         all_goals (rw [hb3.cell (by simp <;> omega)]; assumption))
      | (go_split_ands
         refine ⟨Nat.le_trans (by assumption) hb2.size, HasPow.below (by assumption) hb2 (by omega), ?_, ?_⟩
         all_goals (rw [hb2.cell (by simp <;> omega)]; assumption)))
    (first
      | (go_at_call 107; ((with_reducible refine (itoaIs t _ (by omega) (by omega) (by go_split_ands; assumption) t1 H1.out).mono ?_); rintro e w2 ⟨rfl, hb2⟩))
      | (go_at_call 107; ((with_reducible refine (itoaIs q _ (by omega) (by omega) (by go_split_ands; assumption) t2 H2.out).mono ?_); rintro e w3 ⟨rfl, hb3⟩)))
  have hb23 := (B0.out.drew.trans (hb2.mono (by simp))).trans (hb3.mono (by have := hb2.size; simp at this; omega))
  have B3 := Lib.hid hb23
  clear hb2 hb3 hb23 x0 x1 X P0 B0
  go_wp2
  go_ret
  exact ⟨rfl, B3.out⟩
theorem nameWord_is (a R : ByteArray) (w : World) (hz : a.size ≤ maxLen) (hr : nameW a = R) :
    Calls Tryz.prog 285 #[.string a] w fun e w' => e = .returned (.string R) ∧ Below w.heap.size w w' := by
  have hnot : ∀ (x : Bool) (w : World), (Op.unary .not (.bool x)).run Tryz.prog w = .ok (.bool (!x)) w := fun _ _ => rfl
  have HR := Lib.hid hr
  by_cases h : NameOk a
  · have HF := Lib.hid (show a = R from by rw [← HR.out]; unfold nameW; rw [if_pos h])
    go_enter Tryz.func285, Tryz.ntmps285
    go_wp2_with fail
    refine (nameI_is _ _ true hz (decide_eq_true h)).mono ?_
    rintro e w1 ⟨rfl, rfl⟩
    go_wp2
    go_ret
    exact ⟨ret_s HF.out, Below.refl _ _⟩
  · have HF := Lib.hid (show noB = R from by rw [← HR.out]; unfold nameW; rw [if_neg h])
    go_enter Tryz.func285, Tryz.ntmps285
    go_wp2_with fail
    refine (nameI_is _ _ false hz (decide_eq_false h)).mono ?_
    rintro e w1 ⟨rfl, rfl⟩
    go_wp2
    go_ret
    exact ⟨ret_s HF.out, Below.refl _ _⟩
theorem blockWord_is (i : Int) (R : ByteArray) (w : World) (hp : HasPow w) (hr : blockW i = R) :
    Calls Tryz.prog 286 #[.int .i64 i] w fun e w' => e = .returned (.string R) ∧ Below w.heap.size w w' := by
  have HR := Lib.hid hr
  by_cases h1 : i < 0
  · have HF := Lib.hid (show noB = R from by rw [← HR.out]; unfold blockW; rw [if_neg (by omega)])
    go_enter Tryz.func286, Tryz.ntmps286
    go_wp2
    go_ret
    exact ⟨ret_s HF.out, Below.refl _ _⟩
  by_cases h2 : i ≥ 8
  · have HF := Lib.hid (show noB = R from by rw [← HR.out]; unfold blockW; rw [if_neg (by omega)])
    go_enter Tryz.func286, Tryz.ntmps286
    go_wp2
    go_ret
    exact ⟨ret_s HF.out, Below.refl _ _⟩
  have HF := Lib.hid (show decB i = R from by rw [← HR.out]; unfold blockW; rw [if_pos (by omega)])
  go_enter Tryz.func286, Tryz.ntmps286
  go_wp2_with fail
  refine (itoaIs i _ (by omega) (by omega) hp R HF.out).mono ?_
  rintro e w1 ⟨rfl, hb⟩
  have B1 := Lib.hid hb
  clear hb
  go_wp2
  go_ret
  exact ⟨rfl, B1.out⟩
theorem bytesWord_is (s R : ByteArray) (w : World) (hz : s.size ≤ maxLen) (hg : HasTab w) (hr : bytesW s = R) :
    Calls Tryz.prog 287 #[.string s] w fun e w' => e = .returned (.string R) ∧ Below w.heap.size w w' := by
  unfold maxLen at hz
  have HR := Lib.hid hr
  by_cases h1 : (s.size : Int) > 24
  · have HF := Lib.hid (show noB = R from by rw [← HR.out]; unfold bytesW; rw [if_pos (by omega)])
    go_enter Tryz.func287, Tryz.ntmps287
    go_wp2
    go_ret
    exact ⟨ret_s HF.out, Below.refl _ _⟩
  by_cases h2 : s.size = 0
  · have HF := Lib.hid (show dashB = R from by rw [← HR.out]; unfold bytesW hexW; rw [if_neg (by omega), if_pos h2])
    have he := empty_yes h2
    go_enter Tryz.func287, Tryz.ntmps287
    go_wp2
    go_ret
    exact ⟨ret_s HF.out, Below.refl _ _⟩
  have HF := Lib.hid (show hexB s = R from by rw [← HR.out]; unfold bytesW hexW; rw [if_neg (by omega), if_neg h2])
  have he := empty_no h2
  go_enter Tryz.func287, Tryz.ntmps287
  go_wp2_with fail
  refine (implSumHex_any s _ (by omega) hg.cell).mono ?_
  rintro e w1 ⟨rfl, hb⟩
  have B1 := Lib.hid hb
  clear hb
  go_wp2
  go_ret
  exact ⟨ret_s HF.out, B1.out⟩
/-- The fields of a record, in their order. -/
abbrev fieldsV (r : RecM) : Value := .agg #[.iface 149 (.agg #[.int .i64 r.txg, .int .i64 r.seq]), .iface 150 (.string r.a), .iface 151 (.int .i64 r.i), .iface 152 (.string r.text), .iface 149 (.agg #[.int .i64 r.txg, .int .i64 r.seq])]
set_option maxHeartbeats 1000000 in
theorem logFields_any (r : RecM) (w : World) :
    Calls Tryz.prog 37 #[rv r] w fun e w' => e = .returned (fieldsV r) ∧ Below w.heap.size w w' := by
  go_enter Tryz.func37, Tryz.ntmps37
  go_wp2
  have hb2 := box_new (w.alloc (.cells #[.int .i64 r.txg, .int .i64 r.seq, .int .i64 r.kind, .string r.a, .string r.b, .int .i64 r.i, .string r.text] 26)) #[.iface 149 (.agg #[.int .i64 r.txg, .int .i64 r.seq]), .iface 150 (.string r.a), .iface 151 (.int .i64 r.i), .iface 152 (.string r.text), .iface 149 (.agg #[.int .i64 r.txg, .int .i64 r.seq])] 81
  have hsz : (w.alloc (.cells #[.int .i64 r.txg, .int .i64 r.seq, .int .i64 r.kind, .string r.a, .string r.b, .int .i64 r.i, .string r.text] 26)).heap.size = w.heap.size + 1 := by simp
  rw [hsz] at hb2
  have Y := hb2.alloc (.cells #[.int .i64 r.txg, .int .i64 r.seq] 149)
  have B := (((Below.refl _ w).alloc (Nat.le_refl _) (.cells #[.int .i64 r.txg, .int .i64 r.seq, .int .i64 r.kind, .string r.a, .string r.b, .int .i64 r.i, .string r.text] 26)).alloc (by simp) (.cells #[.iface 149 (.agg #[.int .i64 r.txg, .int .i64 r.seq]), .iface 150 (.string r.a), .iface 151 (.int .i64 r.i), .iface 152 (.string r.text), .iface 149 (.agg #[.int .i64 r.txg, .int .i64 r.seq])] 81)).alloc (by simp; omega) (.cells #[.int .i64 r.txg, .int .i64 r.seq] 149)
  have y0 := Y.cell 0 rfl
  have y1 := Y.cell 1 rfl
  have y2 := Y.cell 2 rfl
  have y3 := Y.cell 3 rfl
  have y4 := Y.cell 4 rfl
  refine bodyPost_ret (v := fieldsV r) ?_ rfl ⟨rfl, B⟩
  simp [results, Tryz.results37, go_sem, y0, y1, y2, y3, y4]
end Go.Proofs.YtgjlhokakcdpbaaGreatDoor
