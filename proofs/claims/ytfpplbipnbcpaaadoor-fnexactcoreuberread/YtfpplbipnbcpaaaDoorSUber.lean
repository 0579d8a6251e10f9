/-
  spec's CoreUberRead.
-/
import Derived.Test.YtfpplbipnbcpaaaDoorUberM
set_option maxRecDepth 100000
namespace Go.Proofs.YtfpplbipnbcpaaaDoor
open Go.ChangeShapes Go.WideShapes Go.ChangeAt Go.RowKit Go.Proofs.Palim

theorem open_small {t s : ByteArray} (h : openB t = some s) : s.size ≤ 400 := by
  have h1 := seal_of_open h
  refine Classical.byContradiction fun hn => open_ne h ?_
  rw [← h1]; unfold sealB; rw [if_pos (by omega)]
/-- What reading the ring's word gives. -/
def UReadPost (t : ByteArray) (w : World) (e : Ending) (w' : World) : Prop :=
  Below w.heap.size w w' ∧ ((∃ n p, Spells t n p ∧ e = .returned (.tuple #[.int .i64 n, pv p, .bool true])) ∨ ((∀ n p, ¬ Spells t n p) ∧ e = .returned (.tuple #[.int .i64 0, pv noPtr, .bool false])))
theorem three_cells {w : World} {v : Value} {ps : List ByteArray} (h : Sl w 1 v ps.length (scs ps)) (h3 : ps.length = 3) : ∃ b off c, v = .slice (some ⟨b, off, none⟩) 3 c ∧ 3 ≤ c ∧ c ≤ maxLen ∧ w.cell? ⟨b, off, none⟩ = some (.string (ps[0]'(by omega))) ∧ w.cell? ⟨b, off + 1, none⟩ = some (.string (ps[1]'(by omega))) := by
  rw [h3] at h
  obtain ⟨b, off, c, rfl, h1, h2, hc⟩ := h.form (by omega)
  refine ⟨b, off, c, rfl, h1, h2, ?_, ?_⟩
  · have := hc 0 _ (scs_at ps 0 (by omega)); simpa using this
  · exact hc 1 _ (scs_at ps 1 (by omega))

set_option maxHeartbeats 2000000 in
theorem specUberRead_any (t : ByteArray) (w : World) (ht : t.size ≤ 1048576) :
    Calls Tryd.prog 14 #[.string t] w (UReadPost t w) := by
  have hnot : ∀ (x : Bool) (w : World), (Op.unary .not (.bool x)).run Tryd.prog w = .ok (.bool (!x)) w := fun _ _ => rfl
  have X0 := Lib.hid (box_new w #[.int .i64 0, .int .i64 0, .int .i64 0] 29)
  have B0 := Lib.hid (Below.new (w := w) (.cells #[.int .i64 0, .int .i64 0, .int .i64 0] 29))
  go_enter Tryd.func14, Tryd.ntmps14
  go_wp2_with fail
  refine (specOpen_any t _ ht).mono ?_
  rintro e w1 ⟨hb, h⟩
  have X1 := Lib.hid (X0.out.below hb X0.out.lt)
  have B1 := Lib.hid (B0.out.trans (hb.mono B0.out.size))
  clear hb X0 B0
  rcases h with ⟨s, hs, rfl⟩ | ⟨hs, rfl⟩
  case inr =>
    have HN := Lib.hid (spells_none hs)
    clear hs
    go_wp2_with fail
    refine (l19Cut32_any ⟨#[]⟩ _ (by show 0 ≤ _; omega)).mono ?_
    rintro e w2 ⟨v, ps, rfl, _, hsl, _, hb, _, _⟩
    have X2 := Lib.hid (X1.out.below hb X1.out.lt)
    have B2 := Lib.hid (B1.out.trans (hb.mono B1.out.size))
    obtain ⟨_, A, c, rfl, _, _, _⟩ := hsl
    clear hb X1 B1
    have c0 := X2.out.cell 0 rfl
    have c1 := X2.out.cell 1 rfl
    have c2 := X2.out.cell 2 rfl
    have f0 := X2.out.open_ 0
    have f1 := X2.out.open_ 1
    have f2 := X2.out.open_ 2
    have X3 := Lib.hid (((X2.out.set 0 (.int .i64 0)).set 1 (.int .i64 0)).set 2 (.int .i64 0))
    have B3 := Lib.hid (((B2.out.setCell (p := ⟨w.heap.size, 0, none⟩) (Nat.le_refl _) (.int .i64 0)).setCell (p := ⟨w.heap.size, 1, none⟩) (Nat.le_refl _) (.int .i64 0)).setCell (p := ⟨w.heap.size, 2, none⟩) (Nat.le_refl _) (.int .i64 0))
    go_wp2
    obtain ⟨y0, y1, y2⟩ := Box.three (x := .int .i64 0) (y := .int .i64 0) (z := .int .i64 0) X3.out
    refine bodyPost_ret (v := .tuple #[.int .i64 0, pv noPtr, .bool false]) ?_ rfl ⟨B3.out, Or.inr ⟨HN.out, rfl⟩⟩
    simp [results, Tryd.results14, go_sem, y0, y1, y2, pv, noPtr]
  case inl =>
    have HO := Lib.hid hs
    have hs4 := open_small hs
    clear hs
    go_wp2_with fail
    refine (l19Cut32_any s _ (by omega)).mono ?_
    rintro e w2 ⟨v, ps, rfl, hps, hsl, hlow, hb, _, hpz⟩
    have X2 := Lib.hid (X1.out.below hb X1.out.lt)
    have B2 := Lib.hid (B1.out.trans (hb.mono B1.out.size))
    have HPS := Lib.hid hps
    clear hb X1 B1 hps
    by_cases h3 : ps.length = 3
    case neg =>
      have HN := Lib.hid (spells_no HO.out HPS.out h3)
      obtain ⟨_, A, c, rfl, hlc, hcm, _⟩ := hsl
      unfold maxLen at hcm
      have h3i : ((ps.length : Int) != 3) = true := by simp; omega
      have c0 := X2.out.cell 0 rfl
      have c1 := X2.out.cell 1 rfl
      have c2 := X2.out.cell 2 rfl
      have f0 := X2.out.open_ 0
      have f1 := X2.out.open_ 1
      have f2 := X2.out.open_ 2
      have X3 := Lib.hid (((X2.out.set 0 (.int .i64 0)).set 1 (.int .i64 0)).set 2 (.int .i64 0))
      have B3 := Lib.hid (((B2.out.setCell (p := ⟨w.heap.size, 0, none⟩) (Nat.le_refl _) (.int .i64 0)).setCell (p := ⟨w.heap.size, 1, none⟩) (Nat.le_refl _) (.int .i64 0)).setCell (p := ⟨w.heap.size, 2, none⟩) (Nat.le_refl _) (.int .i64 0))
      clear h3
      go_wp2
      obtain ⟨y0, y1, y2⟩ := Box.three (x := .int .i64 0) (y := .int .i64 0) (z := .int .i64 0) X3.out
      refine bodyPost_ret (v := .tuple #[.int .i64 0, pv noPtr, .bool false]) ?_ rfl ⟨B3.out, Or.inr ⟨HN.out, rfl⟩⟩
      simp [results, Tryd.results14, go_sem, y0, y1, y2, pv, noPtr]
    case pos =>
    obtain ⟨b, off, c, rfl, hc3, hcm, g0, g1⟩ := three_cells hsl h3
    unfold maxLen at hcm
    have hbl : b < w2.heap.size := hlow b rfl
    have hp0 := hpz _ (List.getElem_mem (show 0 < ps.length by omega))
    have hp1 := hpz _ (List.getElem_mem (show 1 < ps.length by omega))
    have HAT := Lib.hid (fun n p (h : Spells t n p) => spells_at h HO.out HPS.out)
    obtain ⟨a0, HA0⟩ : ∃ a, Hid (ps[0]'(by omega) = a) := ⟨_, Lib.hid rfl⟩
    obtain ⟨a1, HA1⟩ : ∃ a, Hid (ps[1]'(by omega) = a) := ⟨_, Lib.hid rfl⟩
    rw [HA0.out] at g0 hp0
    rw [HA1.out] at g1 hp1
    have HAT2 := Lib.hid (show ∀ n p, Spells t n p → ∃ m : Nat, n = (m : Int) ∧ m < 100000000 ∧ a0.data.toList = Lib.decDigits m ∧ a1 = ptrText p from fun n p h => by
      obtain ⟨m, h1, h2, h4, h5, h6⟩ := HAT.out n p h
      exact ⟨m, h1, h2, by rw [← HA0.out]; exact h5, by rw [← HA1.out]; exact h6⟩)
    clear HAT HA0 HA1 HPS hsl hlow hpz h3
    go_wp2_with fail
    refine (l19Num_any a0 _ (by omega)).mono ?_
    rintro e w2' ⟨n, bb, rfl, rfl, hnum⟩
    have HNUM := Lib.hid hnum
    clear hnum
    go_wp2_with fail
    refine (specPtrRead_any a1 _ (by omega)).mono ?_
    rintro e w3 ⟨hb, h⟩
    have X3 := Lib.hid (X2.out.below hb X2.out.lt)
    have B3 := Lib.hid (B2.out.trans (hb.mono B2.out.size))
    clear hb X2 B2 g0 g1
    obtain ⟨p, rok, HRD, rfl⟩ : ∃ p rok, Hid (∀ q, readM a1 = some q → p = q) ∧ e = .returned (.tuple #[pv p, .bool rok]) := by
      rcases h with ⟨p, hp, rfl⟩ | ⟨hp, rfl⟩
      · exact ⟨p, true, Lib.hid (fun q hq => Option.some.inj (hp.symm.trans hq)), rfl⟩
      · exact ⟨noPtr, false, Lib.hid (fun q hq => by rw [hp] at hq; cases hq), rfl⟩
    obtain ⟨R, HR⟩ : ∃ R, Hid (uberText n p = R) := ⟨_, Lib.hid rfl⟩
    have X4 := Lib.hid (X3.out.alloc (.cells #[.int .i64 p.at_, .int .i64 p.sum, .int .i64 p.birth] 29))
    have Y4 := Lib.hid (box_new w3 #[.int .i64 p.at_, .int .i64 p.sum, .int .i64 p.birth] 29)
    have B4 := Lib.hid (B3.out.alloc B3.out.size (.cells #[.int .i64 p.at_, .int .i64 p.sum, .int .i64 p.birth] 29))
    have hx3 := X3.out.lt
    clear X3 B3
    go_wp2_with fail
    refine (specUber_is n p R _ HR.out).mono ?_
    rintro e w5 ⟨rfl, hb⟩
    have X5 := Lib.hid (X4.out.below hb X4.out.lt)
    have Y5 := Lib.hid (Y4.out.below hb Y4.out.lt)
    have B5 := Lib.hid (B4.out.trans (hb.mono B4.out.size))
    clear hb X4 Y4 B4
    have c0 := X5.out.cell 0 rfl
    have c1 := X5.out.cell 1 rfl
    have c2 := X5.out.cell 2 rfl
    have f0 := X5.out.open_ 0
    have f1 := X5.out.open_ 1
    have f2 := X5.out.open_ 2
    by_cases hR : R = t
    case neg =>
      have HN := Lib.hid (show ∀ n p, ¬ Spells t n p from fun n' p' h => by
        obtain ⟨m, h1, h2, h4, h5⟩ := HAT2.out n' p' h
        have e1 := (HNUM.out m h2 h4).1
        have e2 := HRD.out p' (readM_some (Or.inr h.1.2.2) h5.symm)
        refine hR ?_
        rw [← HR.out, e1, e2, ← h1]
        exact h.2)
      have hq := ne_text hR
      have X6 := Lib.hid (((X5.out.set 0 (.int .i64 0)).set 1 (.int .i64 0)).set 2 (.int .i64 0))
      have B6 := Lib.hid (((B5.out.setCell (p := ⟨w.heap.size, 0, none⟩) (Nat.le_refl _) (.int .i64 0)).setCell (p := ⟨w.heap.size, 1, none⟩) (Nat.le_refl _) (.int .i64 0)).setCell (p := ⟨w.heap.size, 2, none⟩) (Nat.le_refl _) (.int .i64 0))
      clear hR
      go_wp2
      obtain ⟨y0, y1, y2⟩ := Box.three (x := .int .i64 0) (y := .int .i64 0) (z := .int .i64 0) X6.out
      refine bodyPost_ret (v := .tuple #[.int .i64 0, pv noPtr, .bool false]) ?_ rfl ⟨B6.out, Or.inr ⟨HN.out, rfl⟩⟩
      simp [results, Tryd.results14, go_sem, y0, y1, y2, pv, noPtr]
    case pos =>
      have HY := Lib.hid (spells_of HO.out (HR.out.trans hR))
      subst hR
      have hq : (R.toList == R.toList) = true := by simp
      have X6 := Lib.hid (((X5.out.set 0 (.int .i64 p.at_)).set 1 (.int .i64 p.sum)).set 2 (.int .i64 p.birth))
      have B6 := Lib.hid (((B5.out.setCell (p := ⟨w.heap.size, 0, none⟩) (Nat.le_refl _) (.int .i64 p.at_)).setCell (p := ⟨w.heap.size, 1, none⟩) (Nat.le_refl _) (.int .i64 p.sum)).setCell (p := ⟨w.heap.size, 2, none⟩) (Nat.le_refl _) (.int .i64 p.birth))
      obtain ⟨z0, z1, z2⟩ := Y5.out.three
      go_wp2_with fail
      go_region
      go_wp2
      obtain ⟨y0, y1, y2⟩ := Box.three (x := .int .i64 p.at_) (y := .int .i64 p.sum) (z := .int .i64 p.birth) X6.out.drew
      refine bodyPost_ret (v := .tuple #[.int .i64 n, pv p, .bool true]) ?_ rfl ⟨B6.out.drew, Or.inl ⟨n, p, HY.out, rfl⟩⟩
      simp [results, Tryd.results14, go_sem, y0, y1, y2, pv]
end Go.Proofs.YtfpplbipnbcpaaaDoor
