/-
  impl's coreUberOf: the ring's word read, or a panic.
-/
import Derived.Test.YtfcfgdpelbljnaaGreatDoorSUber
import Derived.Deep.RegionHeld3
set_option maxRecDepth 100000
namespace Go.Proofs.YtfcfgdpelbljnaaGreatDoor
open Go.ChangeShapes Go.WideShapes Go.ChangeAt Go.RowKit Go.Proofs.Palim

def UOfPost (t : ByteArray) (w : World) (e : Ending) (w' : World) : Prop :=
  Below w.heap.size w w' ∧ ((∃ n p, Spells t n p ∧ e = .returned (.tuple #[.int .i64 n, pv p])) ∨ ((∀ n p, ¬ Spells t n p) ∧ e = .panicked malformed))
set_option maxHeartbeats 4000000 in
theorem uberOf_any (t : ByteArray) (w : World) (ht : t.size ≤ 1048576) (hv : LibVars w) :
    Calls Tryz.prog 32 #[.string t] w (UOfPost t w) := by
  have hnot : ∀ (x : Bool) (w : World), (Op.unary .not (.bool x)).run Tryz.prog w = .ok (.bool (!x)) w := fun _ _ => rfl
  have X0 := Lib.hid (box_new w #[.int .i64 0, .int .i64 0, .int .i64 0] 24)
  have B0 := Lib.hid (Below.new (w := w) (.cells #[.int .i64 0, .int .i64 0, .int .i64 0] 24))
  have HV0 := Lib.hid (hv.below B0.out)
  clear hv
  go_enter Tryz.func32, Tryz.ntmps32
  go_wp2_with fail
  refine (implOpen_any t _ ht HV0.out.pow HV0.out.mx).mono ?_
  rintro e w1 ⟨hb, h⟩
  have X1 := Lib.hid (X0.out.below hb X0.out.lt)
  have B1 := Lib.hid (B0.out.trans (hb.mono B0.out.size))
  have HV1 := Lib.hid (HV0.out.below hb)
  clear hb X0 B0 HV0
  rcases h with ⟨s, hs, rfl⟩ | ⟨hs, rfl⟩
  case inr =>
    have HN := Lib.hid (spells_none hs)
    clear hs
    obtain ⟨mx, hmx⟩ := HV1.out.mx
    go_wp2_with fail
    refine (split32_any ⟨#[]⟩ _ mx (by show 0 ≤ _; omega) hmx).mono ?_
    rintro e w2 ⟨v, ps, rfl, _, hsl, _, hb, _, _⟩
    have B2 := Lib.hid (B1.out.trans (hb.mono B1.out.size))
    obtain ⟨_, A, c, rfl, _, _, _⟩ := hsl
    clear hb X1 B1 hmx
    go_wp2
    exact ⟨rfl, B2.out, Or.inr ⟨HN.out, rfl⟩⟩
  case inl =>
    have HO := Lib.hid hs
    have hs4 := open_small hs
    clear hs
    obtain ⟨mx, hmx⟩ := HV1.out.mx
    go_wp2_with fail
    refine (split32_any s _ mx (by omega) hmx).mono ?_
    rintro e w2 ⟨v, ps, rfl, hps, hsl, hlow, hb, _, hpz⟩
    have X2 := Lib.hid (X1.out.below hb X1.out.lt)
    have B2 := Lib.hid (B1.out.trans (hb.mono B1.out.size))
    have HV2 := Lib.hid (HV1.out.below hb)
    have HPS := Lib.hid hps
    clear hb X1 B1 hps HV1 hmx
    by_cases h3 : ps.length = 3
    case neg =>
      have HN := Lib.hid (spells_no HO.out HPS.out h3)
      obtain ⟨_, A, c, rfl, hlc, hcm, _⟩ := hsl
      unfold maxLen at hcm
      have h3i : ((ps.length : Int) != 3) = true := by simp; omega
      clear h3
      go_wp2
      exact ⟨rfl, B2.out, Or.inr ⟨HN.out, rfl⟩⟩
    case pos =>
    obtain ⟨b, off, c, rfl, hc3, hcm, g0, g1⟩ := three_cells hsl h3
    unfold maxLen at hcm
    have hbl : b < w2.heap.size := hlow b rfl
    have hp0 := hpz _ (List.getElem_mem (show 0 < ps.length by omega))
    have hp1 := hpz _ (List.getElem_mem (show 1 < ps.length by omega))
    have HAT := Lib.hid (fun n p (h : Spells t n p) => spells_at h HO.out HPS.out)
    obtain ⟨a0, HA0⟩ : ∃ a, Hid (ps[0]'(by omega) = a) := ⟨_, Lib.hid rfl⟩
    obtain ⟨a1, HA1⟩ : ∃ a, Hid (ps[1]'(by omega) = a) := ⟨_, Lib.hid rfl⟩
    rw [HA0.out] at g0 hp0
    rw [HA1.out] at g1 hp1
    have HAT2 := Lib.hid (show ∀ n p, Spells t n p → ∃ m : Nat, n = (m : Int) ∧ m < 100000000 ∧ a0.data.toList = Lib.decDigits m ∧ a1 = ptrText p from fun n p h => by
      obtain ⟨m, h1, h2, h4, h5, h6⟩ := HAT.out n p h
      exact ⟨m, h1, h2, by rw [← HA0.out]; exact h5, by rw [← HA1.out]; exact h6⟩)
    have NOA := Lib.hid (show (∀ n, Lib.atoiAll a0.data.toList ≠ .ok n) → ∀ n p, ¬ Spells t n p from fun hh n p h => by
      obtain ⟨m, h1, h2, h4, h5⟩ := HAT2.out n p h
      exact hh m (by rw [h4]; exact atoi_digs m (by omega)))
    have NOB := Lib.hid (show readM a1 = none → ∀ n p, ¬ Spells t n p from fun hh n p h => by
      obtain ⟨m, h1, h2, h4, h5⟩ := HAT2.out n p h
      rw [readM_some (Or.inr h.1.2.2) h5.symm] at hh
      cases hh)
    clear HAT HA0 HA1 HPS hsl hlow hpz h3
    go_wp2_with fail
    refine wp_region_held_drew (S := fun w' => w'.cell? ⟨b, off, none⟩ = some (.string a0) ∧ w'.cell? ⟨b, off + 1, none⟩ = some (.string a1)) (by kernel_rfl) ⟨g0, g1⟩ (fun hHeld => ?_)
    have hX0 := X2.out.drew
    have hB0 := B2.out.drew
    have hV0 : LibVars w2.drew := HV2.out.below (Below.drew (Below.refl _ w2))
    have hbl0 : b < w2.drew.heap.size := hbl
    have hS0 : w2.drew.cell? ⟨b, off, none⟩ = some (.string a0) ∧ w2.drew.cell? ⟨b, off + 1, none⟩ = some (.string a1) := ⟨g0, g1⟩
    generalize w2.drew = wd at hHeld hX0 hB0 hV0 hbl0 hS0 ⊢
    refine wpAnyH_take (i := 0) (v := ?_) rfl (by kernel_rfl) (by kernel_rfl) (by kernel_rfl) (fun _ _ _ h => h) (Or.inl ⟨by rfl, ?_⟩) (by assumption) ?_
    rotate_left
    · (intro w' hSw; (try dsimp only at hSw); obtain ⟨hc0, hc1⟩ := hSw; go_simp; try with_reducible rfl)
    try simp only [Act.put]
    refine wpAnyH_take (i := 1) (v := ?_) rfl (by kernel_rfl) (by kernel_rfl) (by kernel_rfl) (fun _ _ _ h => h) (Or.inl ⟨by rfl, ?_⟩) (by assumption) ?_
    rotate_left
    · (intro w' hSw; (try dsimp only at hSw); obtain ⟨hc0, hc1⟩ := hSw; go_simp; try with_reducible rfl)
    try simp only [Act.put]
    refine wpAnyH_take (i := 2) (v := ?_) rfl (by kernel_rfl) (by kernel_rfl) (by kernel_rfl) (fun _ _ _ h => h) (Or.inl ⟨by rfl, ?_⟩) (by assumption) ?_
    rotate_left
    · (intro w' hSw; (try dsimp only at hSw); obtain ⟨hc0, hc1⟩ := hSw; go_simp; try with_reducible rfl)
    try simp only [Act.put]
    refine wpAnyH_take (i := 4) (v := ?_) rfl (by kernel_rfl) (by kernel_rfl) (by kernel_rfl) (fun _ _ _ h => h) (Or.inl ⟨by rfl, ?_⟩) (by assumption) ?_
    rotate_left
    · (intro w' hSw; (try dsimp only at hSw); obtain ⟨hc0, hc1⟩ := hSw; go_simp; try with_reducible rfl)
    try simp only [Act.put]
    refine wpAnyH_take (i := 5) (v := ?_) rfl (by kernel_rfl) (by kernel_rfl) (by kernel_rfl) (fun _ _ _ h => h) (Or.inl ⟨by rfl, ?_⟩) (by assumption) ?_
    rotate_left
    · (intro w' hSw; (try dsimp only at hSw); obtain ⟨hc0, hc1⟩ := hSw; go_simp; try with_reducible rfl)
    try simp only [Act.put]
    refine wpAnyH_take (i := 6) (v := ?_) rfl (by kernel_rfl) (by kernel_rfl) (by kernel_rfl) (fun _ _ _ h => h) (Or.inl ⟨by rfl, ?_⟩) (by assumption) ?_
    rotate_left
    · (intro w' hSw; (try dsimp only at hSw); obtain ⟨hc0, hc1⟩ := hSw; go_simp; try with_reducible rfl)
    try simp only [Act.put]
    refine wpAnyH_ready (rs := [3, 8]) (by kernel_rfl) (by simp) ?_
    refine AllReadyH.cons rfl (fun K hK => ?_) (AllReadyH.cons rfl (fun K hK => ?_) (AllReadyH.nil))
    · have hway : True := trivial
      go_simp
      go_at_call 56
      refine (numberOf_any a0 _ (by omega) hV0).mono ?_
      rintro e wt1 ⟨hb1, hh1⟩
      have hX1 := Box.below hX0 hb1 (Box.lt hX0)
      have hB1 := Below.trans hB0 (Below.mono hb1 (Below.size hB0))
      have hV1 := LibVars.below hV0 hb1
      have hbl1 := Nat.lt_of_lt_of_le hbl0 (Below.size hb1)
      have hS1 : wt1.cell? ⟨b, off, none⟩ = some (.string a0) ∧ wt1.cell? ⟨b, off + 1, none⟩ = some (.string a1) := ⟨(Below.cell hb1 hbl0).trans hS0.1, (Below.cell hb1 hbl0).trans hS0.2⟩
      rcases hh1 with ⟨nn, hnn, rfl⟩ | ⟨hnn, rfl⟩
      rotate_left
      · have HPN := Lib.hid (NOA.out hnn)
        go_wp2
        exact ⟨rfl, hB1, Or.inr ⟨HPN.out, rfl⟩⟩
      have HNN := Lib.hid hnn
      clear hnn
      go_wp2_with fail
      refine hK.out _ _ hS1 (fun hHeld1 => ?_)
      clear hK K
      try simp only [Act.put]
      refine wpAnyH_ready (rs := [7, 8]) (by kernel_rfl) (by simp) ?_
      refine AllReadyH.cons rfl (fun K hK => ?_) (AllReadyH.cons rfl (fun K hK => ?_) (AllReadyH.nil))
      · have hway : True := trivial
        go_simp
        go_at_call 57
        refine (ptrOf_any a1 _ (by omega) hV1).mono ?_
        rintro e wt2 ⟨hb2, hh2⟩
        have hX2 := Box.below hX1 hb2 (Box.lt hX1)
        have hB2 := Below.trans hB1 (Below.mono hb2 (Below.size hB1))
        have hV2 := LibVars.below hV1 hb2
        have hbl2 := Nat.lt_of_lt_of_le hbl1 (Below.size hb2)
        have hS2 : wt2.cell? ⟨b, off, none⟩ = some (.string a0) ∧ wt2.cell? ⟨b, off + 1, none⟩ = some (.string a1) := ⟨(Below.cell hb2 hbl1).trans hS1.1, (Below.cell hb2 hbl1).trans hS1.2⟩
        rcases hh2 with ⟨pp, hpp, rfl⟩ | ⟨hpp, rfl⟩
        rotate_left
        · have HPN := Lib.hid (NOB.out hpp)
          go_wp2
          exact ⟨rfl, hB2, Or.inr ⟨HPN.out, rfl⟩⟩
        have HPP := Lib.hid hpp
        clear hpp
        go_wp2_with fail
        refine hK.out _ _ hS2 (fun hHeld2 => ?_)
        clear hK K
        try simp only [Act.put]
        refine wpAnyH_ready (rs := [8]) (by kernel_rfl) (by simp) ?_
        refine AllReadyH.cons rfl (fun K hK => ?_) (AllReadyH.nil)
        have hnw3 := Below.new (w := wt2) (.cells #[.int .i64 0, .int .i64 0, .int .i64 0] 24)
        have hX3 := Box.below hX2 hnw3 (Box.lt hX2)
        have hB3 := Below.trans hB2 (Below.mono hnw3 (Below.size hB2))
        have hV3 := LibVars.below hV2 hnw3
        have hbl3 := Nat.lt_of_lt_of_le hbl2 (Below.size hnw3)
        have hS3 : (wt2.alloc (.cells #[.int .i64 0, .int .i64 0, .int .i64 0] 24)).cell? ⟨b, off, none⟩ = some (.string a0) ∧ (wt2.alloc (.cells #[.int .i64 0, .int .i64 0, .int .i64 0] 24)).cell? ⟨b, off + 1, none⟩ = some (.string a1) := ⟨(Below.cell hnw3 hbl2).trans hS2.1, (Below.cell hnw3 hbl2).trans hS2.2⟩
        have hY3 := box_new wt2 #[.int .i64 0, .int .i64 0, .int .i64 0] 24
        have hP3 : Below wt2.heap.size wt2 (wt2.alloc (.cells #[.int .i64 0, .int .i64 0, .int .i64 0] 24)) := hnw3
        go_simp
        refine hK.out _ _ hS3 (fun hHeld3 => ?_)
        clear hK K
        try simp only [Act.put]
        clear hnw3
        try (change wpAnyH _ _ _ _ _ _ _ _ (wt2.alloc (.cells #[.int .i64 0, .int .i64 0, .int .i64 0] 24)))
        generalize (wt2.alloc (.cells #[.int .i64 0, .int .i64 0, .int .i64 0] 24)) = wa3 at hX3 hB3 hV3 hbl3 hS3 hY3 hP3 ⊢
        refine wpAnyH_take (i := 9) (v := ?_) rfl (by kernel_rfl) (by kernel_rfl) (by kernel_rfl) (fun _ _ _ h => h) (Or.inl ⟨by rfl, ?_⟩) (by assumption) ?_
        rotate_left
        · (intro w' hSw; (try dsimp only at hSw); obtain ⟨hc0, hc1⟩ := hSw; go_simp; try with_reducible rfl)
        try simp only [Act.put]
        refine wpAnyH_ready (rs := [10]) (by kernel_rfl) (by simp) ?_
        refine AllReadyH.cons rfl (fun K hK => ?_) (AllReadyH.nil)
        obtain ⟨k0, k1, k2⟩ := Box.three hY3
        have q0 := Box.open_ hY3 0
        have q1 := Box.open_ hY3 1
        have q2 := Box.open_ hY3 2
        have hPF : Below wt2.heap.size _ (((wa3.setCell ⟨wt2.heap.size, 0, none⟩ (.int .i64 pp.at_)).setCell ⟨wt2.heap.size, 1, none⟩ (.int .i64 pp.sum)).setCell ⟨wt2.heap.size, 2, none⟩ (.int .i64 pp.birth)) := ((hP3.setCell (p := ⟨wt2.heap.size, 0, none⟩) (Nat.le_refl _) (.int .i64 pp.at_)).setCell (p := ⟨wt2.heap.size, 1, none⟩) (Nat.le_refl _) (.int .i64 pp.sum)).setCell (p := ⟨wt2.heap.size, 2, none⟩) (Nat.le_refl _) (.int .i64 pp.birth)
        have hYF : Box (((wa3.setCell ⟨wt2.heap.size, 0, none⟩ (.int .i64 pp.at_)).setCell ⟨wt2.heap.size, 1, none⟩ (.int .i64 pp.sum)).setCell ⟨wt2.heap.size, 2, none⟩ (.int .i64 pp.birth)) wt2.heap.size [.int .i64 pp.at_, .int .i64 pp.sum, .int .i64 pp.birth] := ((hY3.set 0 (.int .i64 pp.at_)).set 1 (.int .i64 pp.sum)).set 2 (.int .i64 pp.birth)
        have hXF := Box.below hX2 hPF (Box.lt hX2)
        have hBF := Below.trans hB2 (Below.mono hPF (Below.size hB2))
        have hVF := LibVars.below hV2 hPF
        have hSF : (((wa3.setCell ⟨wt2.heap.size, 0, none⟩ (.int .i64 pp.at_)).setCell ⟨wt2.heap.size, 1, none⟩ (.int .i64 pp.sum)).setCell ⟨wt2.heap.size, 2, none⟩ (.int .i64 pp.birth)).cell? ⟨b, off, none⟩ = some (.string a0) ∧ (((wa3.setCell ⟨wt2.heap.size, 0, none⟩ (.int .i64 pp.at_)).setCell ⟨wt2.heap.size, 1, none⟩ (.int .i64 pp.sum)).setCell ⟨wt2.heap.size, 2, none⟩ (.int .i64 pp.birth)).cell? ⟨b, off + 1, none⟩ = some (.string a1) := ⟨(Below.cell hPF hbl2).trans hS2.1, (Below.cell hPF hbl2).trans hS2.2⟩
        go_simp
        refine hK.out _ _ hSF (fun hHeld4 => ?_)
        clear hK K
        try simp only [Act.put]
        try (change wpAnyH _ _ _ _ _ _ _ _ (((wa3.setCell ⟨wt2.heap.size, 0, none⟩ (.int .i64 pp.at_)).setCell ⟨wt2.heap.size, 1, none⟩ (.int .i64 pp.sum)).setCell ⟨wt2.heap.size, 2, none⟩ (.int .i64 pp.birth)))
        clear hPF hSF
        generalize (((wa3.setCell ⟨wt2.heap.size, 0, none⟩ (.int .i64 pp.at_)).setCell ⟨wt2.heap.size, 1, none⟩ (.int .i64 pp.sum)).setCell ⟨wt2.heap.size, 2, none⟩ (.int .i64 pp.birth)) = wF at hYF hXF hBF hVF ⊢
        refine wpAnyH_done (by kernel_rfl) ?_ _
        go_simp
        have YF := Lib.hid hYF
        have XF := Lib.hid hXF
        have BF := Lib.hid hBF
        have VF := Lib.hid hVF
        clear hYF hXF hBF hVF
        obtain ⟨z0, z1, z2⟩ := YF.out.three
        obtain ⟨R, HR⟩ : ∃ R, Hid (uberText nn pp = R) := ⟨_, Lib.hid rfl⟩
        go_wp2_with fail
        refine (implUber_is nn pp R _ VF.out.pow HR.out).mono ?_
        rintro e w5 ⟨rfl, hb⟩
        have X5 := Lib.hid (XF.out.below hb XF.out.lt)
        have Y5 := Lib.hid (YF.out.below hb YF.out.lt)
        have B5 := Lib.hid (BF.out.trans (hb.mono BF.out.size))
        clear hb XF YF BF VF z0 z1 z2
        by_cases hR : R = t
        case neg =>
          have HN := Lib.hid (show ∀ n p, ¬ Spells t n p from fun n' p' h => by
            obtain ⟨m, h1, h2, h4, h5⟩ := HAT2.out n' p' h
            have e1 : (m : Int) = nn := by
              have := HNN.out
              rw [h4, atoi_digs m (by omega)] at this
              injection this
            have e2 : pp = p' := Option.some.inj (HPP.out.symm.trans (readM_some (Or.inr h.1.2.2) h5.symm))
            refine hR ?_
            rw [← HR.out, ← e1, e2, ← h1]
            exact h.2)
          have hq := ne_text hR
          clear hR
          go_wp2
          exact ⟨rfl, B5.out, Or.inr ⟨HN.out, rfl⟩⟩
        case pos =>
          have HY := Lib.hid (spells_of HO.out (HR.out.trans hR))
          subst hR
          have hq : (R.toList == R.toList) = true := by simp
          have c0 := X5.out.cell 0 rfl
          have c1 := X5.out.cell 1 rfl
          have c2 := X5.out.cell 2 rfl
          have f0 := X5.out.open_ 0
          have f1 := X5.out.open_ 1
          have f2 := X5.out.open_ 2
          have X6 := Lib.hid (((X5.out.set 0 (.int .i64 pp.at_)).set 1 (.int .i64 pp.sum)).set 2 (.int .i64 pp.birth))
          have B6 := Lib.hid (((B5.out.setCell (p := ⟨w.heap.size, 0, none⟩) (Nat.le_refl _) (.int .i64 pp.at_)).setCell (p := ⟨w.heap.size, 1, none⟩) (Nat.le_refl _) (.int .i64 pp.sum)).setCell (p := ⟨w.heap.size, 2, none⟩) (Nat.le_refl _) (.int .i64 pp.birth))
          obtain ⟨z0, z1, z2⟩ := Y5.out.three
          go_wp2_with fail
          go_region
          go_wp2
          obtain ⟨y0, y1, y2⟩ := Box.three (x := .int .i64 pp.at_) (y := .int .i64 pp.sum) (z := .int .i64 pp.birth) X6.out.drew
          refine bodyPost_ret (v := .tuple #[.int .i64 nn, pv pp]) ?_ rfl ⟨B6.out.drew, Or.inl ⟨nn, pp, HY.out, rfl⟩⟩
          simp [results, Tryz.results32, go_sem, y0, y1, y2, pv]
      · have hway : True := trivial
        have hnw2 := Below.new (w := wt1) (.cells #[.int .i64 0, .int .i64 0, .int .i64 0] 24)
        have hX2 := Box.below hX1 hnw2 (Box.lt hX1)
        have hB2 := Below.trans hB1 (Below.mono hnw2 (Below.size hB1))
        have hV2 := LibVars.below hV1 hnw2
        have hbl2 := Nat.lt_of_lt_of_le hbl1 (Below.size hnw2)
        have hS2 : (wt1.alloc (.cells #[.int .i64 0, .int .i64 0, .int .i64 0] 24)).cell? ⟨b, off, none⟩ = some (.string a0) ∧ (wt1.alloc (.cells #[.int .i64 0, .int .i64 0, .int .i64 0] 24)).cell? ⟨b, off + 1, none⟩ = some (.string a1) := ⟨(Below.cell hnw2 hbl1).trans hS1.1, (Below.cell hnw2 hbl1).trans hS1.2⟩
        have hY2 := box_new wt1 #[.int .i64 0, .int .i64 0, .int .i64 0] 24
        have hP2 : Below wt1.heap.size wt1 (wt1.alloc (.cells #[.int .i64 0, .int .i64 0, .int .i64 0] 24)) := hnw2
        go_simp
        refine hK.out _ _ hS2 (fun hHeld2 => ?_)
        clear hK K
        try simp only [Act.put]
        clear hnw2
        try (change wpAnyH _ _ _ _ _ _ _ _ (wt1.alloc (.cells #[.int .i64 0, .int .i64 0, .int .i64 0] 24)))
        generalize (wt1.alloc (.cells #[.int .i64 0, .int .i64 0, .int .i64 0] 24)) = wa2 at hX2 hB2 hV2 hbl2 hS2 hY2 hP2 ⊢
        refine wpAnyH_ready (rs := [7]) (by kernel_rfl) (by simp) ?_
        refine AllReadyH.cons rfl (fun K hK => ?_) (AllReadyH.nil)
        go_simp
        go_at_call 57
        refine (ptrOf_any a1 _ (by omega) hV2).mono ?_
        rintro e wt3 ⟨hb3, hh3⟩
        have hX3 := Box.below hX2 hb3 (Box.lt hX2)
        have hB3 := Below.trans hB2 (Below.mono hb3 (Below.size hB2))
        have hV3 := LibVars.below hV2 hb3
        have hbl3 := Nat.lt_of_lt_of_le hbl2 (Below.size hb3)
        have hS3 : wt3.cell? ⟨b, off, none⟩ = some (.string a0) ∧ wt3.cell? ⟨b, off + 1, none⟩ = some (.string a1) := ⟨(Below.cell hb3 hbl2).trans hS2.1, (Below.cell hb3 hbl2).trans hS2.2⟩
        have hY3 := Box.below hY2 hb3 (Box.lt hY2)
        have hP3 := Below.trans hP2 (Below.mono hb3 (Below.size hP2))
        rcases hh3 with ⟨pp, hpp, rfl⟩ | ⟨hpp, rfl⟩
        rotate_left
        · have HPN := Lib.hid (NOB.out hpp)
          go_wp2
          exact ⟨rfl, hB3, Or.inr ⟨HPN.out, rfl⟩⟩
        have HPP := Lib.hid hpp
        clear hpp
        go_wp2_with fail
        refine hK.out _ _ hS3 (fun hHeld3 => ?_)
        clear hK K
        try simp only [Act.put]
        refine wpAnyH_take (i := 9) (v := ?_) rfl (by kernel_rfl) (by kernel_rfl) (by kernel_rfl) (fun _ _ _ h => h) (Or.inl ⟨by rfl, ?_⟩) (by assumption) ?_
        rotate_left
        · (intro w' hSw; (try dsimp only at hSw); obtain ⟨hc0, hc1⟩ := hSw; go_simp; try with_reducible rfl)
        try simp only [Act.put]
        refine wpAnyH_ready (rs := [10]) (by kernel_rfl) (by simp) ?_
        refine AllReadyH.cons rfl (fun K hK => ?_) (AllReadyH.nil)
        obtain ⟨k0, k1, k2⟩ := Box.three hY3
        have q0 := Box.open_ hY3 0
        have q1 := Box.open_ hY3 1
        have q2 := Box.open_ hY3 2
        have hPF : Below wt1.heap.size _ (((wt3.setCell ⟨wt1.heap.size, 0, none⟩ (.int .i64 pp.at_)).setCell ⟨wt1.heap.size, 1, none⟩ (.int .i64 pp.sum)).setCell ⟨wt1.heap.size, 2, none⟩ (.int .i64 pp.birth)) := ((hP3.setCell (p := ⟨wt1.heap.size, 0, none⟩) (Nat.le_refl _) (.int .i64 pp.at_)).setCell (p := ⟨wt1.heap.size, 1, none⟩) (Nat.le_refl _) (.int .i64 pp.sum)).setCell (p := ⟨wt1.heap.size, 2, none⟩) (Nat.le_refl _) (.int .i64 pp.birth)
        have hYF : Box (((wt3.setCell ⟨wt1.heap.size, 0, none⟩ (.int .i64 pp.at_)).setCell ⟨wt1.heap.size, 1, none⟩ (.int .i64 pp.sum)).setCell ⟨wt1.heap.size, 2, none⟩ (.int .i64 pp.birth)) wt1.heap.size [.int .i64 pp.at_, .int .i64 pp.sum, .int .i64 pp.birth] := ((hY3.set 0 (.int .i64 pp.at_)).set 1 (.int .i64 pp.sum)).set 2 (.int .i64 pp.birth)
        have hXF := Box.below hX1 hPF (Box.lt hX1)
        have hBF := Below.trans hB1 (Below.mono hPF (Below.size hB1))
        have hVF := LibVars.below hV1 hPF
        have hSF : (((wt3.setCell ⟨wt1.heap.size, 0, none⟩ (.int .i64 pp.at_)).setCell ⟨wt1.heap.size, 1, none⟩ (.int .i64 pp.sum)).setCell ⟨wt1.heap.size, 2, none⟩ (.int .i64 pp.birth)).cell? ⟨b, off, none⟩ = some (.string a0) ∧ (((wt3.setCell ⟨wt1.heap.size, 0, none⟩ (.int .i64 pp.at_)).setCell ⟨wt1.heap.size, 1, none⟩ (.int .i64 pp.sum)).setCell ⟨wt1.heap.size, 2, none⟩ (.int .i64 pp.birth)).cell? ⟨b, off + 1, none⟩ = some (.string a1) := ⟨(Below.cell hPF hbl1).trans hS1.1, (Below.cell hPF hbl1).trans hS1.2⟩
        go_simp
        refine hK.out _ _ hSF (fun hHeld4 => ?_)
        clear hK K
        try simp only [Act.put]
        try (change wpAnyH _ _ _ _ _ _ _ _ (((wt3.setCell ⟨wt1.heap.size, 0, none⟩ (.int .i64 pp.at_)).setCell ⟨wt1.heap.size, 1, none⟩ (.int .i64 pp.sum)).setCell ⟨wt1.heap.size, 2, none⟩ (.int .i64 pp.birth)))
        clear hPF hSF
        generalize (((wt3.setCell ⟨wt1.heap.size, 0, none⟩ (.int .i64 pp.at_)).setCell ⟨wt1.heap.size, 1, none⟩ (.int .i64 pp.sum)).setCell ⟨wt1.heap.size, 2, none⟩ (.int .i64 pp.birth)) = wF at hYF hXF hBF hVF ⊢
        refine wpAnyH_done (by kernel_rfl) ?_ _
        go_simp
        have YF := Lib.hid hYF
        have XF := Lib.hid hXF
        have BF := Lib.hid hBF
        have VF := Lib.hid hVF
        clear hYF hXF hBF hVF
        obtain ⟨z0, z1, z2⟩ := YF.out.three
        obtain ⟨R, HR⟩ : ∃ R, Hid (uberText nn pp = R) := ⟨_, Lib.hid rfl⟩
        go_wp2_with fail
        refine (implUber_is nn pp R _ VF.out.pow HR.out).mono ?_
        rintro e w5 ⟨rfl, hb⟩
        have X5 := Lib.hid (XF.out.below hb XF.out.lt)
        have Y5 := Lib.hid (YF.out.below hb YF.out.lt)
        have B5 := Lib.hid (BF.out.trans (hb.mono BF.out.size))
        clear hb XF YF BF VF z0 z1 z2
        by_cases hR : R = t
        case neg =>
          have HN := Lib.hid (show ∀ n p, ¬ Spells t n p from fun n' p' h => by
            obtain ⟨m, h1, h2, h4, h5⟩ := HAT2.out n' p' h
            have e1 : (m : Int) = nn := by
              have := HNN.out
              rw [h4, atoi_digs m (by omega)] at this
              injection this
            have e2 : pp = p' := Option.some.inj (HPP.out.symm.trans (readM_some (Or.inr h.1.2.2) h5.symm))
            refine hR ?_
            rw [← HR.out, ← e1, e2, ← h1]
            exact h.2)
          have hq := ne_text hR
          clear hR
          go_wp2
          exact ⟨rfl, B5.out, Or.inr ⟨HN.out, rfl⟩⟩
        case pos =>
          have HY := Lib.hid (spells_of HO.out (HR.out.trans hR))
          subst hR
          have hq : (R.toList == R.toList) = true := by simp
          have c0 := X5.out.cell 0 rfl
          have c1 := X5.out.cell 1 rfl
          have c2 := X5.out.cell 2 rfl
          have f0 := X5.out.open_ 0
          have f1 := X5.out.open_ 1
          have f2 := X5.out.open_ 2
          have X6 := Lib.hid (((X5.out.set 0 (.int .i64 pp.at_)).set 1 (.int .i64 pp.sum)).set 2 (.int .i64 pp.birth))
          have B6 := Lib.hid (((B5.out.setCell (p := ⟨w.heap.size, 0, none⟩) (Nat.le_refl _) (.int .i64 pp.at_)).setCell (p := ⟨w.heap.size, 1, none⟩) (Nat.le_refl _) (.int .i64 pp.sum)).setCell (p := ⟨w.heap.size, 2, none⟩) (Nat.le_refl _) (.int .i64 pp.birth))
          obtain ⟨z0, z1, z2⟩ := Y5.out.three
          go_wp2_with fail
          go_region
          go_wp2
          obtain ⟨y0, y1, y2⟩ := Box.three (x := .int .i64 pp.at_) (y := .int .i64 pp.sum) (z := .int .i64 pp.birth) X6.out.drew
          refine bodyPost_ret (v := .tuple #[.int .i64 nn, pv pp]) ?_ rfl ⟨B6.out.drew, Or.inl ⟨nn, pp, HY.out, rfl⟩⟩
          simp [results, Tryz.results32, go_sem, y0, y1, y2, pv]
    · have hway : True := trivial
      have hnw1 := Below.new (w := wd) (.cells #[.int .i64 0, .int .i64 0, .int .i64 0] 24)
      have hX1 := Box.below hX0 hnw1 (Box.lt hX0)
      have hB1 := Below.trans hB0 (Below.mono hnw1 (Below.size hB0))
      have hV1 := LibVars.below hV0 hnw1
      have hbl1 := Nat.lt_of_lt_of_le hbl0 (Below.size hnw1)
      have hS1 : (wd.alloc (.cells #[.int .i64 0, .int .i64 0, .int .i64 0] 24)).cell? ⟨b, off, none⟩ = some (.string a0) ∧ (wd.alloc (.cells #[.int .i64 0, .int .i64 0, .int .i64 0] 24)).cell? ⟨b, off + 1, none⟩ = some (.string a1) := ⟨(Below.cell hnw1 hbl0).trans hS0.1, (Below.cell hnw1 hbl0).trans hS0.2⟩
      have hY1 := box_new wd #[.int .i64 0, .int .i64 0, .int .i64 0] 24
      have hP1 : Below wd.heap.size wd (wd.alloc (.cells #[.int .i64 0, .int .i64 0, .int .i64 0] 24)) := hnw1
      go_simp
      refine hK.out _ _ hS1 (fun hHeld1 => ?_)
      clear hK K
      try simp only [Act.put]
      clear hnw1
      try (change wpAnyH _ _ _ _ _ _ _ _ (wd.alloc (.cells #[.int .i64 0, .int .i64 0, .int .i64 0] 24)))
      generalize (wd.alloc (.cells #[.int .i64 0, .int .i64 0, .int .i64 0] 24)) = wa1 at hX1 hB1 hV1 hbl1 hS1 hY1 hP1 ⊢
      refine wpAnyH_ready (rs := [3]) (by kernel_rfl) (by simp) ?_
      refine AllReadyH.cons rfl (fun K hK => ?_) (AllReadyH.nil)
      go_simp
      go_at_call 56
      refine (numberOf_any a0 _ (by omega) hV1).mono ?_
      rintro e wt2 ⟨hb2, hh2⟩
      have hX2 := Box.below hX1 hb2 (Box.lt hX1)
      have hB2 := Below.trans hB1 (Below.mono hb2 (Below.size hB1))
      have hV2 := LibVars.below hV1 hb2
      have hbl2 := Nat.lt_of_lt_of_le hbl1 (Below.size hb2)
      have hS2 : wt2.cell? ⟨b, off, none⟩ = some (.string a0) ∧ wt2.cell? ⟨b, off + 1, none⟩ = some (.string a1) := ⟨(Below.cell hb2 hbl1).trans hS1.1, (Below.cell hb2 hbl1).trans hS1.2⟩
      have hY2 := Box.below hY1 hb2 (Box.lt hY1)
      have hP2 := Below.trans hP1 (Below.mono hb2 (Below.size hP1))
      rcases hh2 with ⟨nn, hnn, rfl⟩ | ⟨hnn, rfl⟩
      rotate_left
      · have HPN := Lib.hid (NOA.out hnn)
        go_wp2
        exact ⟨rfl, hB2, Or.inr ⟨HPN.out, rfl⟩⟩
      have HNN := Lib.hid hnn
      clear hnn
      go_wp2_with fail
      refine hK.out _ _ hS2 (fun hHeld2 => ?_)
      clear hK K
      try simp only [Act.put]
      refine wpAnyH_ready (rs := [7]) (by kernel_rfl) (by simp) ?_
      refine AllReadyH.cons rfl (fun K hK => ?_) (AllReadyH.nil)
      go_simp
      go_at_call 57
      refine (ptrOf_any a1 _ (by omega) hV2).mono ?_
      rintro e wt3 ⟨hb3, hh3⟩
      have hX3 := Box.below hX2 hb3 (Box.lt hX2)
      have hB3 := Below.trans hB2 (Below.mono hb3 (Below.size hB2))
      have hV3 := LibVars.below hV2 hb3
      have hbl3 := Nat.lt_of_lt_of_le hbl2 (Below.size hb3)
      have hS3 : wt3.cell? ⟨b, off, none⟩ = some (.string a0) ∧ wt3.cell? ⟨b, off + 1, none⟩ = some (.string a1) := ⟨(Below.cell hb3 hbl2).trans hS2.1, (Below.cell hb3 hbl2).trans hS2.2⟩
      have hY3 := Box.below hY2 hb3 (Box.lt hY2)
      have hP3 := Below.trans hP2 (Below.mono hb3 (Below.size hP2))
      rcases hh3 with ⟨pp, hpp, rfl⟩ | ⟨hpp, rfl⟩
      rotate_left
      · have HPN := Lib.hid (NOB.out hpp)
        go_wp2
        exact ⟨rfl, hB3, Or.inr ⟨HPN.out, rfl⟩⟩
      have HPP := Lib.hid hpp
      clear hpp
      go_wp2_with fail
      refine hK.out _ _ hS3 (fun hHeld3 => ?_)
      clear hK K
      try simp only [Act.put]
      refine wpAnyH_take (i := 9) (v := ?_) rfl (by kernel_rfl) (by kernel_rfl) (by kernel_rfl) (fun _ _ _ h => h) (Or.inl ⟨by rfl, ?_⟩) (by assumption) ?_
      rotate_left
      · (intro w' hSw; (try dsimp only at hSw); obtain ⟨hc0, hc1⟩ := hSw; go_simp; try with_reducible rfl)
      try simp only [Act.put]
      refine wpAnyH_ready (rs := [10]) (by kernel_rfl) (by simp) ?_
      refine AllReadyH.cons rfl (fun K hK => ?_) (AllReadyH.nil)
      obtain ⟨k0, k1, k2⟩ := Box.three hY3
      have q0 := Box.open_ hY3 0
      have q1 := Box.open_ hY3 1
      have q2 := Box.open_ hY3 2
      have hPF : Below wd.heap.size _ (((wt3.setCell ⟨wd.heap.size, 0, none⟩ (.int .i64 pp.at_)).setCell ⟨wd.heap.size, 1, none⟩ (.int .i64 pp.sum)).setCell ⟨wd.heap.size, 2, none⟩ (.int .i64 pp.birth)) := ((hP3.setCell (p := ⟨wd.heap.size, 0, none⟩) (Nat.le_refl _) (.int .i64 pp.at_)).setCell (p := ⟨wd.heap.size, 1, none⟩) (Nat.le_refl _) (.int .i64 pp.sum)).setCell (p := ⟨wd.heap.size, 2, none⟩) (Nat.le_refl _) (.int .i64 pp.birth)
      have hYF : Box (((wt3.setCell ⟨wd.heap.size, 0, none⟩ (.int .i64 pp.at_)).setCell ⟨wd.heap.size, 1, none⟩ (.int .i64 pp.sum)).setCell ⟨wd.heap.size, 2, none⟩ (.int .i64 pp.birth)) wd.heap.size [.int .i64 pp.at_, .int .i64 pp.sum, .int .i64 pp.birth] := ((hY3.set 0 (.int .i64 pp.at_)).set 1 (.int .i64 pp.sum)).set 2 (.int .i64 pp.birth)
      have hXF := Box.below hX0 hPF (Box.lt hX0)
      have hBF := Below.trans hB0 (Below.mono hPF (Below.size hB0))
      have hVF := LibVars.below hV0 hPF
      have hSF : (((wt3.setCell ⟨wd.heap.size, 0, none⟩ (.int .i64 pp.at_)).setCell ⟨wd.heap.size, 1, none⟩ (.int .i64 pp.sum)).setCell ⟨wd.heap.size, 2, none⟩ (.int .i64 pp.birth)).cell? ⟨b, off, none⟩ = some (.string a0) ∧ (((wt3.setCell ⟨wd.heap.size, 0, none⟩ (.int .i64 pp.at_)).setCell ⟨wd.heap.size, 1, none⟩ (.int .i64 pp.sum)).setCell ⟨wd.heap.size, 2, none⟩ (.int .i64 pp.birth)).cell? ⟨b, off + 1, none⟩ = some (.string a1) := ⟨(Below.cell hPF hbl0).trans hS0.1, (Below.cell hPF hbl0).trans hS0.2⟩
      go_simp
      refine hK.out _ _ hSF (fun hHeld4 => ?_)
      clear hK K
      try simp only [Act.put]
      try (change wpAnyH _ _ _ _ _ _ _ _ (((wt3.setCell ⟨wd.heap.size, 0, none⟩ (.int .i64 pp.at_)).setCell ⟨wd.heap.size, 1, none⟩ (.int .i64 pp.sum)).setCell ⟨wd.heap.size, 2, none⟩ (.int .i64 pp.birth)))
      clear hPF hSF
      generalize (((wt3.setCell ⟨wd.heap.size, 0, none⟩ (.int .i64 pp.at_)).setCell ⟨wd.heap.size, 1, none⟩ (.int .i64 pp.sum)).setCell ⟨wd.heap.size, 2, none⟩ (.int .i64 pp.birth)) = wF at hYF hXF hBF hVF ⊢
      refine wpAnyH_done (by kernel_rfl) ?_ _
      go_simp
      have YF := Lib.hid hYF
      have XF := Lib.hid hXF
      have BF := Lib.hid hBF
      have VF := Lib.hid hVF
      clear hYF hXF hBF hVF
      obtain ⟨z0, z1, z2⟩ := YF.out.three
      obtain ⟨R, HR⟩ : ∃ R, Hid (uberText nn pp = R) := ⟨_, Lib.hid rfl⟩
      go_wp2_with fail
      refine (implUber_is nn pp R _ VF.out.pow HR.out).mono ?_
      rintro e w5 ⟨rfl, hb⟩
      have X5 := Lib.hid (XF.out.below hb XF.out.lt)
      have Y5 := Lib.hid (YF.out.below hb YF.out.lt)
      have B5 := Lib.hid (BF.out.trans (hb.mono BF.out.size))
      clear hb XF YF BF VF z0 z1 z2
      by_cases hR : R = t
      case neg =>
        have HN := Lib.hid (show ∀ n p, ¬ Spells t n p from fun n' p' h => by
          obtain ⟨m, h1, h2, h4, h5⟩ := HAT2.out n' p' h
          have e1 : (m : Int) = nn := by
            have := HNN.out
            rw [h4, atoi_digs m (by omega)] at this
            injection this
          have e2 : pp = p' := Option.some.inj (HPP.out.symm.trans (readM_some (Or.inr h.1.2.2) h5.symm))
          refine hR ?_
          rw [← HR.out, ← e1, e2, ← h1]
          exact h.2)
        have hq := ne_text hR
        clear hR
        go_wp2
        exact ⟨rfl, B5.out, Or.inr ⟨HN.out, rfl⟩⟩
      case pos =>
        have HY := Lib.hid (spells_of HO.out (HR.out.trans hR))
        subst hR
        have hq : (R.toList == R.toList) = true := by simp
        have c0 := X5.out.cell 0 rfl
        have c1 := X5.out.cell 1 rfl
        have c2 := X5.out.cell 2 rfl
        have f0 := X5.out.open_ 0
        have f1 := X5.out.open_ 1
        have f2 := X5.out.open_ 2
        have X6 := Lib.hid (((X5.out.set 0 (.int .i64 pp.at_)).set 1 (.int .i64 pp.sum)).set 2 (.int .i64 pp.birth))
        have B6 := Lib.hid (((B5.out.setCell (p := ⟨w.heap.size, 0, none⟩) (Nat.le_refl _) (.int .i64 pp.at_)).setCell (p := ⟨w.heap.size, 1, none⟩) (Nat.le_refl _) (.int .i64 pp.sum)).setCell (p := ⟨w.heap.size, 2, none⟩) (Nat.le_refl _) (.int .i64 pp.birth))
        obtain ⟨z0, z1, z2⟩ := Y5.out.three
        go_wp2_with fail
        go_region
        go_wp2
        obtain ⟨y0, y1, y2⟩ := Box.three (x := .int .i64 pp.at_) (y := .int .i64 pp.sum) (z := .int .i64 pp.birth) X6.out.drew
        refine bodyPost_ret (v := .tuple #[.int .i64 nn, pv pp]) ?_ rfl ⟨B6.out.drew, Or.inl ⟨nn, pp, HY.out, rfl⟩⟩
        simp [results, Tryz.results32, go_sem, y0, y1, y2, pv]
end Go.Proofs.YtfcfgdpelbljnaaGreatDoor
