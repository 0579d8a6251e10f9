/-
  impl's logUnseal: a record read, or a panic.
-/
import Derived.Test.YtgjlhokakcdpbaaGreatDoorILogP
import Derived.Deep.RegionHeld3
set_option maxRecDepth 100000
namespace Go.Proofs.YtgjlhokakcdpbaaGreatDoor
open Go.ChangeShapes Go.WideShapes Go.ChangeAt Go.RowKit Go.Proofs.Palim

def LOfPost (t : ByteArray) (w : World) (e : Ending) (w' : World) : Prop :=
  Below w.heap.size w w' ∧ ((∃ r, LSpells t r ∧ e = .returned (rv r)) ∨ ((∀ r, ¬ LSpells t r) ∧ e = .panicked malformed))
set_option maxHeartbeats 16000000 in
theorem logUnseal_any (t : ByteArray) (w : World) (ht : t.size ≤ 1048576) (hv : LogVars w) :
    Calls Tryz.prog 41 #[.string t] w (LOfPost t w) := by
  have hnot : ∀ (x : Bool) (w : World), (Op.unary .not (.bool x)).run Tryz.prog w = .ok (.bool (!x)) w := fun _ _ => rfl
  have X0 := Lib.hid (box_new w #[.int .i64 0, .int .i64 0, .int .i64 0, .string ⟨#[]⟩, .string ⟨#[]⟩, .int .i64 0, .string ⟨#[]⟩] 26)
  have B0 := Lib.hid (Below.new (w := w) (.cells #[.int .i64 0, .int .i64 0, .int .i64 0, .string ⟨#[]⟩, .string ⟨#[]⟩, .int .i64 0, .string ⟨#[]⟩] 26))
  have HV0 := Lib.hid (hv.below B0.out)
  clear hv
  go_enter Tryz.func41, Tryz.ntmps41
  go_wp2_with fail
  refine (implOpen_any t _ ht HV0.out.libs.pow HV0.out.libs.mx).mono ?_
  rintro e w1 ⟨hb, h⟩
  have X1 := Lib.hid (X0.out.below hb X0.out.lt)
  have B1 := Lib.hid (B0.out.trans (hb.mono B0.out.size))
  have HV1 := Lib.hid (HV0.out.below hb)
  clear hb X0 B0 HV0
  rcases h with ⟨s, hs, rfl⟩ | ⟨hs, rfl⟩
  case inr =>
    have HN := Lib.hid (lspells_none hs)
    clear hs
    obtain ⟨mx, hmx⟩ := HV1.out.libs.mx
    go_wp2_with fail
    refine (split32_any ⟨#[]⟩ _ mx (by show 0 ≤ _; omega) hmx).mono ?_
    rintro e w2 ⟨v, ps, rfl, _, hsl, _, hb, _, _⟩
    have B2 := Lib.hid (B1.out.trans (hb.mono B1.out.size))
    obtain ⟨_, A, c, rfl, _, _, _⟩ := hsl
    clear hb X1 B1 hmx
    go_wp2
    exact ⟨rfl, B2.out, Or.inr ⟨HN.out, rfl⟩⟩
  case inl =>
    have HO := Lib.hid hs
    have hs4 := opened_small hs
    clear hs
    obtain ⟨mx, hmx⟩ := HV1.out.libs.mx
    go_wp2_with fail
    refine (split32_any s _ mx (by omega) hmx).mono ?_
    rintro e w2 ⟨v, ps, rfl, hps, hsl, hlow, hb, _, hpz⟩
    have X2 := Lib.hid (X1.out.below hb X1.out.lt)
    have B2 := Lib.hid (B1.out.trans (hb.mono B1.out.size))
    have HV2 := Lib.hid (HV1.out.below hb)
    have HPS := Lib.hid hps
    clear hb X1 B1 hps HV1 hmx
    by_cases h5 : ps.length = 5
    case neg =>
      have HN := Lib.hid (lspells_no HO.out HPS.out h5)
      obtain ⟨_, A, c, rfl, hlc, hcm, _⟩ := hsl
      unfold maxLen at hcm
      have h5i : ((ps.length : Int) != 5) = true := by simp; omega
      clear h5
      go_wp2
      exact ⟨rfl, B2.out, Or.inr ⟨HN.out, rfl⟩⟩
    case pos =>
    have HL5 := Lib.hid h5
    obtain ⟨a0, a1, a2, a3, a4, rfl⟩ := list5 h5
    obtain ⟨b, off, c, rfl, hc3, hcm, g0, g1, g2, g3, g4⟩ := five_cells hsl HL5.out
    unfold maxLen at hcm
    have hbl : b < w2.heap.size := hlow b rfl
    have hp0 := hpz a0 (by simp)
    have hp1 := hpz a1 (by simp)
    have hp2 := hpz a2 (by simp)
    have hp3 := hpz a3 (by simp)
    have hp4 := hpz a4 (by simp)
    have HAT := Lib.hid (fun r (h : LSpells t r) => rec_words_tell h.1 (lspells_at h HO.out HPS.out))
    have NO0 := Lib.hid (show (∀ m q : Nat, ¬ MarkIs a0 m q) → ∀ r, ¬ LSpells t r from fun hh r h => by
      obtain ⟨m, q, k, hr, h1, h2, h3, hm, hk, _, _⟩ := HAT.out r h
      exact hh m q ⟨h1, h2, hm⟩)
    have NO2 := Lib.hid (show (∀ n, Lib.atoiAll a2.data.toList ≠ .ok n) → ∀ r, ¬ LSpells t r from fun hh r h => by
      obtain ⟨m, q, k, hr, h1, h2, h3, hm, hk, _, _⟩ := HAT.out r h
      exact hh k (by rw [hk]; exact atoi_digs k (by omega)))
    have NO3 := Lib.hid (show a3 ≠ dashB → unhex a3.data.toList = none → ∀ r, ¬ LSpells t r from fun hd hu r h => by
      obtain ⟨m, q, k, hr, h1, h2, h3, hm, hk, _, h7⟩ := HAT.out r h
      have := h7 hd
      rw [hu] at this
      cases this)
    have NO4 := Lib.hid (show (∀ m q : Nat, ¬ MarkIs a4 m q) → ∀ r, ¬ LSpells t r from fun hh r h => by
      obtain ⟨m, q, k, hr, h1, h2, h3, hm, hk, h6, _⟩ := HAT.out r h
      exact hh m q ⟨h1, h2, by rw [h6]; exact hm⟩)
    clear HPS hsl hlow hpz h5 HL5
    go_wp2_with fail
    refine wp_region_held_drew (S := fun w' => w'.cell? ⟨b, off, none⟩ = some (.string a0) ∧ w'.cell? ⟨b, off + 1, none⟩ = some (.string a1) ∧ w'.cell? ⟨b, off + 2, none⟩ = some (.string a2) ∧ w'.cell? ⟨b, off + 3, none⟩ = some (.string a3) ∧ w'.cell? ⟨b, off + 4, none⟩ = some (.string a4)) (by kernel_rfl) ⟨g0, g1, g2, g3, g4⟩ (fun hHeld => ?_)
    have hX0 := X2.out.drew
    have hB0 := B2.out.drew
    have hV0 : LogVars w2.drew := HV2.out.below (Below.drew (Below.refl _ w2))
    have hbl0 : b < w2.drew.heap.size := hbl
    have hS0 : w2.drew.cell? ⟨b, off, none⟩ = some (.string a0) ∧ w2.drew.cell? ⟨b, off + 1, none⟩ = some (.string a1) ∧ w2.drew.cell? ⟨b, off + 2, none⟩ = some (.string a2) ∧ w2.drew.cell? ⟨b, off + 3, none⟩ = some (.string a3) ∧ w2.drew.cell? ⟨b, off + 4, none⟩ = some (.string a4) := ⟨g0, g1, g2, g3, g4⟩
    generalize w2.drew = wd at hHeld hX0 hB0 hV0 hbl0 hS0 ⊢
    refine wpAnyH_take (i := 0) (v := ?_) rfl (by kernel_rfl) (by kernel_rfl) (by kernel_rfl) (fun _ _ _ h => h) (Or.inl ⟨by rfl, ?_⟩) (by assumption) ?_
    rotate_left
    · (intro w' hSw; (try dsimp only at hSw); obtain ⟨hc0, hc1, hc2, hc3, hc4⟩ := hSw; go_simp; try with_reducible rfl)
    try simp only [Act.put]
    refine wpAnyH_take (i := 1) (v := ?_) rfl (by kernel_rfl) (by kernel_rfl) (by kernel_rfl) (fun _ _ _ h => h) (Or.inl ⟨by rfl, ?_⟩) (by assumption) ?_
    rotate_left
    · (intro w' hSw; (try dsimp only at hSw); obtain ⟨hc0, hc1, hc2, hc3, hc4⟩ := hSw; go_simp; try with_reducible rfl)
    try simp only [Act.put]
    refine wpAnyH_take (i := 2) (v := ?_) rfl (by kernel_rfl) (by kernel_rfl) (by kernel_rfl) (fun _ _ _ h => h) (Or.inl ⟨by rfl, ?_⟩) (by assumption) ?_
    rotate_left
    · (intro w' hSw; (try dsimp only at hSw); obtain ⟨hc0, hc1, hc2, hc3, hc4⟩ := hSw; go_simp; try with_reducible rfl)
    try simp only [Act.put]
    refine wpAnyH_take (i := 5) (v := ?_) rfl (by kernel_rfl) (by kernel_rfl) (by kernel_rfl) (fun _ _ _ h => h) (Or.inl ⟨by rfl, ?_⟩) (by assumption) ?_
    rotate_left
    · (intro w' hSw; (try dsimp only at hSw); obtain ⟨hc0, hc1, hc2, hc3, hc4⟩ := hSw; go_simp; try with_reducible rfl)
    try simp only [Act.put]
    refine wpAnyH_take (i := 6) (v := ?_) rfl (by kernel_rfl) (by kernel_rfl) (by kernel_rfl) (fun _ _ _ h => h) (Or.inl ⟨by rfl, ?_⟩) (by assumption) ?_
    rotate_left
    · (intro w' hSw; (try dsimp only at hSw); obtain ⟨hc0, hc1, hc2, hc3, hc4⟩ := hSw; go_simp; try with_reducible rfl)
    try simp only [Act.put]
    refine wpAnyH_take (i := 7) (v := ?_) rfl (by kernel_rfl) (by kernel_rfl) (by kernel_rfl) (fun _ _ _ h => h) (Or.inl ⟨by rfl, ?_⟩) (by assumption) ?_
    rotate_left
    · (intro w' hSw; (try dsimp only at hSw); obtain ⟨hc0, hc1, hc2, hc3, hc4⟩ := hSw; go_simp; try with_reducible rfl)
    try simp only [Act.put]
    refine wpAnyH_take (i := 8) (v := ?_) rfl (by kernel_rfl) (by kernel_rfl) (by kernel_rfl) (fun _ _ _ h => h) (Or.inl ⟨by rfl, ?_⟩) (by assumption) ?_
    rotate_left
    · (intro w' hSw; (try dsimp only at hSw); obtain ⟨hc0, hc1, hc2, hc3, hc4⟩ := hSw; go_simp; try with_reducible rfl)
    try simp only [Act.put]
    refine wpAnyH_take (i := 9) (v := ?_) rfl (by kernel_rfl) (by kernel_rfl) (by kernel_rfl) (fun _ _ _ h => h) (Or.inl ⟨by rfl, ?_⟩) (by assumption) ?_
    rotate_left
    · (intro w' hSw; (try dsimp only at hSw); obtain ⟨hc0, hc1, hc2, hc3, hc4⟩ := hSw; go_simp; try with_reducible rfl)
    try simp only [Act.put]
    refine wpAnyH_take (i := 10) (v := ?_) rfl (by kernel_rfl) (by kernel_rfl) (by kernel_rfl) (fun _ _ _ h => h) (Or.inl ⟨by rfl, ?_⟩) (by assumption) ?_
    rotate_left
    · (intro w' hSw; (try dsimp only at hSw); obtain ⟨hc0, hc1, hc2, hc3, hc4⟩ := hSw; go_simp; try with_reducible rfl)
    try simp only [Act.put]
    refine wpAnyH_take (i := 11) (v := ?_) rfl (by kernel_rfl) (by kernel_rfl) (by kernel_rfl) (fun _ _ _ h => h) (Or.inl ⟨by rfl, ?_⟩) (by assumption) ?_
    rotate_left
    · (intro w' hSw; (try dsimp only at hSw); obtain ⟨hc0, hc1, hc2, hc3, hc4⟩ := hSw; go_simp; try with_reducible rfl)
    try simp only [Act.put]
    refine wpAnyH_take (i := 14) (v := ?_) rfl (by kernel_rfl) (by kernel_rfl) (by kernel_rfl) (fun _ _ _ h => h) (Or.inl ⟨by rfl, ?_⟩) (by assumption) ?_
    rotate_left
    · (intro w' hSw; (try dsimp only at hSw); obtain ⟨hc0, hc1, hc2, hc3, hc4⟩ := hSw; go_simp; try with_reducible rfl)
    try simp only [Act.put]
    refine wpAnyH_take (i := 15) (v := ?_) rfl (by kernel_rfl) (by kernel_rfl) (by kernel_rfl) (fun _ _ _ h => h) (Or.inl ⟨by rfl, ?_⟩) (by assumption) ?_
    rotate_left
    · (intro w' hSw; (try dsimp only at hSw); obtain ⟨hc0, hc1, hc2, hc3, hc4⟩ := hSw; go_simp; try with_reducible rfl)
    try simp only [Act.put]
    refine wpAnyH_take (i := 16) (v := ?_) rfl (by kernel_rfl) (by kernel_rfl) (by kernel_rfl) (fun _ _ _ h => h) (Or.inl ⟨by rfl, ?_⟩) (by assumption) ?_
    rotate_left
    · (intro w' hSw; (try dsimp only at hSw); obtain ⟨hc0, hc1, hc2, hc3, hc4⟩ := hSw; go_simp; try with_reducible rfl)
    try simp only [Act.put]
    refine wpAnyH_take (i := 19) (v := ?_) rfl (by kernel_rfl) (by kernel_rfl) (by kernel_rfl) (fun _ _ _ h => h) (Or.inl ⟨by rfl, ?_⟩) (by assumption) ?_
    rotate_left
    · (intro w' hSw; (try dsimp only at hSw); obtain ⟨hc0, hc1, hc2, hc3, hc4⟩ := hSw; go_simp; try with_reducible rfl)
    try simp only [Act.put]
    refine wpAnyH_take (i := 20) (v := ?_) rfl (by kernel_rfl) (by kernel_rfl) (by kernel_rfl) (fun _ _ _ h => h) (Or.inl ⟨by rfl, ?_⟩) (by assumption) ?_
    rotate_left
    · (intro w' hSw; (try dsimp only at hSw); obtain ⟨hc0, hc1, hc2, hc3, hc4⟩ := hSw; go_simp; try with_reducible rfl)
    try simp only [Act.put]
    refine wpAnyH_take (i := 21) (v := ?_) rfl (by kernel_rfl) (by kernel_rfl) (by kernel_rfl) (fun _ _ _ h => h) (Or.inl ⟨by rfl, ?_⟩) (by assumption) ?_
    rotate_left
    · (intro w' hSw; (try dsimp only at hSw); obtain ⟨hc0, hc1, hc2, hc3, hc4⟩ := hSw; go_simp; try with_reducible rfl)
    try simp only [Act.put]
    refine wpAnyH_ready (rs := [3, 26]) (by kernel_rfl) (by simp) ?_
    refine AllReadyH.cons rfl (fun K hK => ?_) (AllReadyH.cons rfl (fun K hK => ?_) (AllReadyH.nil))
    · have hway : True := trivial
      go_simp
      go_at_call 115
      refine (markOf_any a0 _ (by omega) hV0.libs).mono ?_
      rintro e wt1 ⟨hb1, hh1⟩
      have hX1 := Box.below hX0 hb1 (Box.lt hX0)
      have hB1 := Below.trans hB0 (Below.mono hb1 (Below.size hB0))
      have hV1 := LogVars.below hV0 hb1
      have hbl1 := Nat.lt_of_lt_of_le hbl0 (Below.size hb1)
      have hS1 : wt1.cell? ⟨b, off, none⟩ = some (.string a0) ∧ wt1.cell? ⟨b, off + 1, none⟩ = some (.string a1) ∧ wt1.cell? ⟨b, off + 2, none⟩ = some (.string a2) ∧ wt1.cell? ⟨b, off + 3, none⟩ = some (.string a3) ∧ wt1.cell? ⟨b, off + 4, none⟩ = some (.string a4) := ⟨(Below.cell hb1 hbl0).trans hS0.1, (Below.cell hb1 hbl0).trans hS0.2.1, (Below.cell hb1 hbl0).trans hS0.2.2.1, (Below.cell hb1 hbl0).trans hS0.2.2.2.1, (Below.cell hb1 hbl0).trans hS0.2.2.2.2⟩
      rcases hh1 with ⟨n0, n1, hm0, rfl⟩ | ⟨hm0, rfl⟩
      rotate_left
      · have HPN := Lib.hid (NO0.out hm0)
        go_wp2
        exact ⟨rfl, hB1, Or.inr ⟨HPN.out, rfl⟩⟩
      have HM0 := Lib.hid hm0
      clear hm0
      go_wp2_with fail
      refine hK.out _ _ hS1 (fun hHeld1 => ?_)
      clear hK K
      try simp only [Act.put]
      refine wpAnyH_take (i := 4) (v := ?_) rfl (by kernel_rfl) (by kernel_rfl) (by kernel_rfl) (fun _ _ _ h => h) (Or.inl ⟨by rfl, ?_⟩) (by assumption) ?_
      rotate_left
      · (intro w' hSw; (try dsimp only at hSw); obtain ⟨hc0, hc1, hc2, hc3, hc4⟩ := hSw; go_simp; try with_reducible rfl)
      try simp only [Act.put]
      refine wpAnyH_ready (rs := [12, 26]) (by kernel_rfl) (by simp) ?_
      refine AllReadyH.cons rfl (fun K hK => ?_) (AllReadyH.cons rfl (fun K hK => ?_) (AllReadyH.nil))
      · have hway : True := trivial
        go_simp
        go_at_call 116
        refine (numLog_any a2 _ (by omega) hV1.libs).mono ?_
        rintro e wt2 ⟨hb2, hh2⟩
        have hX2 := Box.below hX1 hb2 (Box.lt hX1)
        have hB2 := Below.trans hB1 (Below.mono hb2 (Below.size hB1))
        have hV2 := LogVars.below hV1 hb2
        have hbl2 := Nat.lt_of_lt_of_le hbl1 (Below.size hb2)
        have hS2 : wt2.cell? ⟨b, off, none⟩ = some (.string a0) ∧ wt2.cell? ⟨b, off + 1, none⟩ = some (.string a1) ∧ wt2.cell? ⟨b, off + 2, none⟩ = some (.string a2) ∧ wt2.cell? ⟨b, off + 3, none⟩ = some (.string a3) ∧ wt2.cell? ⟨b, off + 4, none⟩ = some (.string a4) := ⟨(Below.cell hb2 hbl1).trans hS1.1, (Below.cell hb2 hbl1).trans hS1.2.1, (Below.cell hb2 hbl1).trans hS1.2.2.1, (Below.cell hb2 hbl1).trans hS1.2.2.2.1, (Below.cell hb2 hbl1).trans hS1.2.2.2.2⟩
        rcases hh2 with ⟨n2, hm2, rfl⟩ | ⟨hm2, rfl⟩
        rotate_left
        · have HPN := Lib.hid (NO2.out hm2)
          go_wp2
          exact ⟨rfl, hB2, Or.inr ⟨HPN.out, rfl⟩⟩
        have HM2 := Lib.hid hm2
        clear hm2
        go_wp2_with fail
        refine hK.out _ _ hS2 (fun hHeld2 => ?_)
        clear hK K
        try simp only [Act.put]
        refine wpAnyH_take (i := 13) (v := ?_) rfl (by kernel_rfl) (by kernel_rfl) (by kernel_rfl) (fun _ _ _ h => h) (Or.inl ⟨by rfl, ?_⟩) (by assumption) ?_
        rotate_left
        · (intro w' hSw; (try dsimp only at hSw); obtain ⟨hc0, hc1, hc2, hc3, hc4⟩ := hSw; go_simp; try with_reducible rfl)
        try simp only [Act.put]
        refine wpAnyH_ready (rs := [17, 26]) (by kernel_rfl) (by simp) ?_
        refine AllReadyH.cons rfl (fun K hK => ?_) (AllReadyH.cons rfl (fun K hK => ?_) (AllReadyH.nil))
        · have hway : True := trivial
          go_simp
          go_at_call 117
          refine (bytesOf_any a3 _ (by omega) hV2.tab).mono ?_
          rintro e wt3 ⟨hb3, hh3⟩
          have hX3 := Box.below hX2 hb3 (Box.lt hX2)
          have hB3 := Below.trans hB2 (Below.mono hb3 (Below.size hB2))
          have hV3 := LogVars.below hV2 hb3
          have hbl3 := Nat.lt_of_lt_of_le hbl2 (Below.size hb3)
          have hS3 : wt3.cell? ⟨b, off, none⟩ = some (.string a0) ∧ wt3.cell? ⟨b, off + 1, none⟩ = some (.string a1) ∧ wt3.cell? ⟨b, off + 2, none⟩ = some (.string a2) ∧ wt3.cell? ⟨b, off + 3, none⟩ = some (.string a3) ∧ wt3.cell? ⟨b, off + 4, none⟩ = some (.string a4) := ⟨(Below.cell hb3 hbl2).trans hS2.1, (Below.cell hb3 hbl2).trans hS2.2.1, (Below.cell hb3 hbl2).trans hS2.2.2.1, (Below.cell hb3 hbl2).trans hS2.2.2.2.1, (Below.cell hb3 hbl2).trans hS2.2.2.2.2⟩
          rcases hh3 with rfl | ⟨hm3, hm3u, rfl⟩
          rotate_left
          · have HPN := Lib.hid (NO3.out hm3 hm3u)
            go_wp2
            exact ⟨rfl, hB3, Or.inr ⟨HPN.out, rfl⟩⟩
          go_wp2_with fail
          refine hK.out _ _ hS3 (fun hHeld3 => ?_)
          clear hK K
          try simp only [Act.put]
          refine wpAnyH_take (i := 18) (v := ?_) rfl (by kernel_rfl) (by kernel_rfl) (by kernel_rfl) (fun _ _ _ h => h) (Or.inl ⟨by rfl, ?_⟩) (by assumption) ?_
          rotate_left
          · (intro w' hSw; (try dsimp only at hSw); obtain ⟨hc0, hc1, hc2, hc3, hc4⟩ := hSw; go_simp; try with_reducible rfl)
          try simp only [Act.put]
          refine wpAnyH_ready (rs := [22, 26]) (by kernel_rfl) (by simp) ?_
          refine AllReadyH.cons rfl (fun K hK => ?_) (AllReadyH.cons rfl (fun K hK => ?_) (AllReadyH.nil))
          · have hway : True := trivial
            go_simp
            go_at_call 115
            refine (markOf_any a4 _ (by omega) hV3.libs).mono ?_
            rintro e wt4 ⟨hb4, hh4⟩
            have hX4 := Box.below hX3 hb4 (Box.lt hX3)
            have hB4 := Below.trans hB3 (Below.mono hb4 (Below.size hB3))
            have hV4 := LogVars.below hV3 hb4
            have hbl4 := Nat.lt_of_lt_of_le hbl3 (Below.size hb4)
            have hS4 : wt4.cell? ⟨b, off, none⟩ = some (.string a0) ∧ wt4.cell? ⟨b, off + 1, none⟩ = some (.string a1) ∧ wt4.cell? ⟨b, off + 2, none⟩ = some (.string a2) ∧ wt4.cell? ⟨b, off + 3, none⟩ = some (.string a3) ∧ wt4.cell? ⟨b, off + 4, none⟩ = some (.string a4) := ⟨(Below.cell hb4 hbl3).trans hS3.1, (Below.cell hb4 hbl3).trans hS3.2.1, (Below.cell hb4 hbl3).trans hS3.2.2.1, (Below.cell hb4 hbl3).trans hS3.2.2.2.1, (Below.cell hb4 hbl3).trans hS3.2.2.2.2⟩
            rcases hh4 with ⟨n3, n4, -, rfl⟩ | ⟨hm4, rfl⟩
            rotate_left
            · have HPN := Lib.hid (NO4.out hm4)
              go_wp2
              exact ⟨rfl, hB4, Or.inr ⟨HPN.out, rfl⟩⟩
            go_wp2_with fail
            refine hK.out _ _ hS4 (fun hHeld4 => ?_)
            clear hK K
            try simp only [Act.put]
            refine wpAnyH_take (i := 23) (v := ?_) rfl (by kernel_rfl) (by kernel_rfl) (by kernel_rfl) (fun _ _ _ h => h) (Or.inl ⟨by rfl, ?_⟩) (by assumption) ?_
            rotate_left
            · (intro w' hSw; (try dsimp only at hSw); obtain ⟨hc0, hc1, hc2, hc3, hc4⟩ := hSw; go_simp; try with_reducible rfl)
            try simp only [Act.put]
            refine wpAnyH_take (i := 24) (v := ?_) rfl (by kernel_rfl) (by kernel_rfl) (by kernel_rfl) (fun _ _ _ h => h) (Or.inl ⟨by rfl, ?_⟩) (by assumption) ?_
            rotate_left
            · (intro w' hSw; (try dsimp only at hSw); obtain ⟨hc0, hc1, hc2, hc3, hc4⟩ := hSw; go_simp; try with_reducible rfl)
            try simp only [Act.put]
            refine wpAnyH_ready (rs := [25, 26]) (by kernel_rfl) (by simp) ?_
            refine AllReadyH.cons rfl (fun K hK => ?_) (AllReadyH.cons rfl (fun K hK => ?_) (AllReadyH.nil))
            · have hway : True := trivial
              go_simp
              go_at_call 114
              refine (recOf_any n0 n1 n3 n4 n2 a1 (textOf a3) _).mono ?_
              rintro e wt5 ⟨rfl, hb5⟩
              have hX5 := Box.below hX4 hb5 (Box.lt hX4)
              have hB5 := Below.trans hB4 (Below.mono hb5 (Below.size hB4))
              have hV5 := LogVars.below hV4 hb5
              have hbl5 := Nat.lt_of_lt_of_le hbl4 (Below.size hb5)
              have hS5 : wt5.cell? ⟨b, off, none⟩ = some (.string a0) ∧ wt5.cell? ⟨b, off + 1, none⟩ = some (.string a1) ∧ wt5.cell? ⟨b, off + 2, none⟩ = some (.string a2) ∧ wt5.cell? ⟨b, off + 3, none⟩ = some (.string a3) ∧ wt5.cell? ⟨b, off + 4, none⟩ = some (.string a4) := ⟨(Below.cell hb5 hbl4).trans hS4.1, (Below.cell hb5 hbl4).trans hS4.2.1, (Below.cell hb5 hbl4).trans hS4.2.2.1, (Below.cell hb5 hbl4).trans hS4.2.2.2.1, (Below.cell hb5 hbl4).trans hS4.2.2.2.2⟩
              go_wp2_with fail
              refine hK.out _ _ hS5 (fun hHeld5 => ?_)
              clear hK K
              try simp only [Act.put]
              refine wpAnyH_ready (rs := [26]) (by kernel_rfl) (by simp) ?_
              refine AllReadyH.cons rfl (fun K hK => ?_) (AllReadyH.nil)
              have hnw6 := Below.new (w := wt5) (.cells #[.int .i64 0, .int .i64 0, .int .i64 0, .string ⟨#[]⟩, .string ⟨#[]⟩, .int .i64 0, .string ⟨#[]⟩] 26)
              have hX6 := Box.below hX5 hnw6 (Box.lt hX5)
              have hB6 := Below.trans hB5 (Below.mono hnw6 (Below.size hB5))
              have hV6 := LogVars.below hV5 hnw6
              have hbl6 := Nat.lt_of_lt_of_le hbl5 (Below.size hnw6)
              have hS6 : (wt5.alloc (.cells #[.int .i64 0, .int .i64 0, .int .i64 0, .string ⟨#[]⟩, .string ⟨#[]⟩, .int .i64 0, .string ⟨#[]⟩] 26)).cell? ⟨b, off, none⟩ = some (.string a0) ∧ (wt5.alloc (.cells #[.int .i64 0, .int .i64 0, .int .i64 0, .string ⟨#[]⟩, .string ⟨#[]⟩, .int .i64 0, .string ⟨#[]⟩] 26)).cell? ⟨b, off + 1, none⟩ = some (.string a1) ∧ (wt5.alloc (.cells #[.int .i64 0, .int .i64 0, .int .i64 0, .string ⟨#[]⟩, .string ⟨#[]⟩, .int .i64 0, .string ⟨#[]⟩] 26)).cell? ⟨b, off + 2, none⟩ = some (.string a2) ∧ (wt5.alloc (.cells #[.int .i64 0, .int .i64 0, .int .i64 0, .string ⟨#[]⟩, .string ⟨#[]⟩, .int .i64 0, .string ⟨#[]⟩] 26)).cell? ⟨b, off + 3, none⟩ = some (.string a3) ∧ (wt5.alloc (.cells #[.int .i64 0, .int .i64 0, .int .i64 0, .string ⟨#[]⟩, .string ⟨#[]⟩, .int .i64 0, .string ⟨#[]⟩] 26)).cell? ⟨b, off + 4, none⟩ = some (.string a4) := ⟨(Below.cell hnw6 hbl5).trans hS5.1, (Below.cell hnw6 hbl5).trans hS5.2.1, (Below.cell hnw6 hbl5).trans hS5.2.2.1, (Below.cell hnw6 hbl5).trans hS5.2.2.2.1, (Below.cell hnw6 hbl5).trans hS5.2.2.2.2⟩
              have hY6 := box_new wt5 #[.int .i64 0, .int .i64 0, .int .i64 0, .string ⟨#[]⟩, .string ⟨#[]⟩, .int .i64 0, .string ⟨#[]⟩] 26
              have hP6 : Below wt5.heap.size wt5 (wt5.alloc (.cells #[.int .i64 0, .int .i64 0, .int .i64 0, .string ⟨#[]⟩, .string ⟨#[]⟩, .int .i64 0, .string ⟨#[]⟩] 26)) := hnw6
              go_simp
              refine hK.out _ _ hS6 (fun hHeld6 => ?_)
              clear hK K
              try simp only [Act.put]
              clear hnw6
              try (change wpAnyH _ _ _ _ _ _ _ _ (wt5.alloc (.cells #[.int .i64 0, .int .i64 0, .int .i64 0, .string ⟨#[]⟩, .string ⟨#[]⟩, .int .i64 0, .string ⟨#[]⟩] 26)))
              generalize (wt5.alloc (.cells #[.int .i64 0, .int .i64 0, .int .i64 0, .string ⟨#[]⟩, .string ⟨#[]⟩, .int .i64 0, .string ⟨#[]⟩] 26)) = wa6 at hX6 hB6 hV6 hbl6 hS6 hY6 hP6 ⊢
              refine wpAnyH_ready (rs := [27]) (by kernel_rfl) (by simp) ?_
              refine AllReadyH.cons rfl (fun K hK => ?_) (AllReadyH.nil)
              have k0 := Box.cell hY6 0 rfl
              have k1 := Box.cell hY6 1 rfl
              have k2 := Box.cell hY6 2 rfl
              have k3 := Box.cell hY6 3 rfl
              have k4 := Box.cell hY6 4 rfl
              have k5 := Box.cell hY6 5 rfl
              have k6 := Box.cell hY6 6 rfl
              have q0 := Box.open_ hY6 0
              have q1 := Box.open_ hY6 1
              have q2 := Box.open_ hY6 2
              have q3 := Box.open_ hY6 3
              have q4 := Box.open_ hY6 4
              have q5 := Box.open_ hY6 5
              have q6 := Box.open_ hY6 6
              have hPF : Below wt5.heap.size _ (((((((wa6.setCell ⟨wt5.heap.size, 0, none⟩ (.int .i64 n0)).setCell ⟨wt5.heap.size, 1, none⟩ (.int .i64 n1)).setCell ⟨wt5.heap.size, 2, none⟩ (.int .i64 3)).setCell ⟨wt5.heap.size, 3, none⟩ (.string a1)).setCell ⟨wt5.heap.size, 4, none⟩ (.string ⟨#[]⟩)).setCell ⟨wt5.heap.size, 5, none⟩ (.int .i64 n2)).setCell ⟨wt5.heap.size, 6, none⟩ (.string (textOf a3))) := (((((((hP6.setCell (p := ⟨wt5.heap.size, 0, none⟩) (Nat.le_refl _) (.int .i64 n0)).setCell (p := ⟨wt5.heap.size, 1, none⟩) (Nat.le_refl _) (.int .i64 n1)).setCell (p := ⟨wt5.heap.size, 2, none⟩) (Nat.le_refl _) (.int .i64 3)).setCell (p := ⟨wt5.heap.size, 3, none⟩) (Nat.le_refl _) (.string a1)).setCell (p := ⟨wt5.heap.size, 4, none⟩) (Nat.le_refl _) (.string ⟨#[]⟩)).setCell (p := ⟨wt5.heap.size, 5, none⟩) (Nat.le_refl _) (.int .i64 n2)).setCell (p := ⟨wt5.heap.size, 6, none⟩) (Nat.le_refl _) (.string (textOf a3)))
              have hYF : Box (((((((wa6.setCell ⟨wt5.heap.size, 0, none⟩ (.int .i64 n0)).setCell ⟨wt5.heap.size, 1, none⟩ (.int .i64 n1)).setCell ⟨wt5.heap.size, 2, none⟩ (.int .i64 3)).setCell ⟨wt5.heap.size, 3, none⟩ (.string a1)).setCell ⟨wt5.heap.size, 4, none⟩ (.string ⟨#[]⟩)).setCell ⟨wt5.heap.size, 5, none⟩ (.int .i64 n2)).setCell ⟨wt5.heap.size, 6, none⟩ (.string (textOf a3))) wt5.heap.size [.int .i64 n0, .int .i64 n1, .int .i64 3, .string a1, .string ⟨#[]⟩, .int .i64 n2, .string (textOf a3)] := (((((((hY6.set 0 (.int .i64 n0)).set 1 (.int .i64 n1)).set 2 (.int .i64 3)).set 3 (.string a1)).set 4 (.string ⟨#[]⟩)).set 5 (.int .i64 n2)).set 6 (.string (textOf a3)))
              have hXF := Box.below hX5 hPF (Box.lt hX5)
              have hBF := Below.trans hB5 (Below.mono hPF (Below.size hB5))
              have hVF := LogVars.below hV5 hPF
              have hSF : (((((((wa6.setCell ⟨wt5.heap.size, 0, none⟩ (.int .i64 n0)).setCell ⟨wt5.heap.size, 1, none⟩ (.int .i64 n1)).setCell ⟨wt5.heap.size, 2, none⟩ (.int .i64 3)).setCell ⟨wt5.heap.size, 3, none⟩ (.string a1)).setCell ⟨wt5.heap.size, 4, none⟩ (.string ⟨#[]⟩)).setCell ⟨wt5.heap.size, 5, none⟩ (.int .i64 n2)).setCell ⟨wt5.heap.size, 6, none⟩ (.string (textOf a3))).cell? ⟨b, off, none⟩ = some (.string a0) ∧ (((((((wa6.setCell ⟨wt5.heap.size, 0, none⟩ (.int .i64 n0)).setCell ⟨wt5.heap.size, 1, none⟩ (.int .i64 n1)).setCell ⟨wt5.heap.size, 2, none⟩ (.int .i64 3)).setCell ⟨wt5.heap.size, 3, none⟩ (.string a1)).setCell ⟨wt5.heap.size, 4, none⟩ (.string ⟨#[]⟩)).setCell ⟨wt5.heap.size, 5, none⟩ (.int .i64 n2)).setCell ⟨wt5.heap.size, 6, none⟩ (.string (textOf a3))).cell? ⟨b, off + 1, none⟩ = some (.string a1) ∧ (((((((wa6.setCell ⟨wt5.heap.size, 0, none⟩ (.int .i64 n0)).setCell ⟨wt5.heap.size, 1, none⟩ (.int .i64 n1)).setCell ⟨wt5.heap.size, 2, none⟩ (.int .i64 3)).setCell ⟨wt5.heap.size, 3, none⟩ (.string a1)).setCell ⟨wt5.heap.size, 4, none⟩ (.string ⟨#[]⟩)).setCell ⟨wt5.heap.size, 5, none⟩ (.int .i64 n2)).setCell ⟨wt5.heap.size, 6, none⟩ (.string (textOf a3))).cell? ⟨b, off + 2, none⟩ = some (.string a2) ∧ (((((((wa6.setCell ⟨wt5.heap.size, 0, none⟩ (.int .i64 n0)).setCell ⟨wt5.heap.size, 1, none⟩ (.int .i64 n1)).setCell ⟨wt5.heap.size, 2, none⟩ (.int .i64 3)).setCell ⟨wt5.heap.size, 3, none⟩ (.string a1)).setCell ⟨wt5.heap.size, 4, none⟩ (.string ⟨#[]⟩)).setCell ⟨wt5.heap.size, 5, none⟩ (.int .i64 n2)).setCell ⟨wt5.heap.size, 6, none⟩ (.string (textOf a3))).cell? ⟨b, off + 3, none⟩ = some (.string a3) ∧ (((((((wa6.setCell ⟨wt5.heap.size, 0, none⟩ (.int .i64 n0)).setCell ⟨wt5.heap.size, 1, none⟩ (.int .i64 n1)).setCell ⟨wt5.heap.size, 2, none⟩ (.int .i64 3)).setCell ⟨wt5.heap.size, 3, none⟩ (.string a1)).setCell ⟨wt5.heap.size, 4, none⟩ (.string ⟨#[]⟩)).setCell ⟨wt5.heap.size, 5, none⟩ (.int .i64 n2)).setCell ⟨wt5.heap.size, 6, none⟩ (.string (textOf a3))).cell? ⟨b, off + 4, none⟩ = some (.string a4) := ⟨(Below.cell hPF hbl5).trans hS5.1, (Below.cell hPF hbl5).trans hS5.2.1, (Below.cell hPF hbl5).trans hS5.2.2.1, (Below.cell hPF hbl5).trans hS5.2.2.2.1, (Below.cell hPF hbl5).trans hS5.2.2.2.2⟩
              go_simp
              refine hK.out _ _ hSF (fun hHeld7 => ?_)
              clear hK K
              try simp only [Act.put]
              try (change wpAnyH _ _ _ _ _ _ _ _ (((((((wa6.setCell ⟨wt5.heap.size, 0, none⟩ (.int .i64 n0)).setCell ⟨wt5.heap.size, 1, none⟩ (.int .i64 n1)).setCell ⟨wt5.heap.size, 2, none⟩ (.int .i64 3)).setCell ⟨wt5.heap.size, 3, none⟩ (.string a1)).setCell ⟨wt5.heap.size, 4, none⟩ (.string ⟨#[]⟩)).setCell ⟨wt5.heap.size, 5, none⟩ (.int .i64 n2)).setCell ⟨wt5.heap.size, 6, none⟩ (.string (textOf a3))))
              clear hPF hSF
              generalize (((((((wa6.setCell ⟨wt5.heap.size, 0, none⟩ (.int .i64 n0)).setCell ⟨wt5.heap.size, 1, none⟩ (.int .i64 n1)).setCell ⟨wt5.heap.size, 2, none⟩ (.int .i64 3)).setCell ⟨wt5.heap.size, 3, none⟩ (.string a1)).setCell ⟨wt5.heap.size, 4, none⟩ (.string ⟨#[]⟩)).setCell ⟨wt5.heap.size, 5, none⟩ (.int .i64 n2)).setCell ⟨wt5.heap.size, 6, none⟩ (.string (textOf a3))) = wF at hYF hXF hBF hVF ⊢
              refine wpAnyH_done (by kernel_rfl) ?_ _
              go_simp
              have YF := Lib.hid hYF
              have XF := Lib.hid hXF
              have BF := Lib.hid hBF
              have VF := Lib.hid hVF
              clear hYF hXF hBF hVF
              have HS2 := Lib.hid (show ∀ r, LSpells t r → r = ⟨n0, n1, 3, a1, ⟨#[]⟩, n2, textOf a3⟩ from fun r h => by
                obtain ⟨m, q, k, hr, h1, h2, h3, hm, hk, _, _⟩ := HAT.out r h
                obtain ⟨e0, e1⟩ := HM0.out m q ⟨h1, h2, hm⟩
                have e2 : (k : Int) = n2 := by
                  have := HM2.out
                  rw [hk, atoi_digs k (by omega)] at this
                  injection this
                rw [hr, e0, e1, e2])
              have htx := textOf_size a3
              obtain ⟨x, HX⟩ : ∃ x, Hid (textOf a3 = x) := ⟨_, Lib.hid rfl⟩
              rw [HX.out] at htx HS2 YF ⊢
              have hxs : x.size ≤ maxLen := by unfold maxLen; omega
              obtain ⟨R, HR⟩ : ∃ R, Hid (logText ⟨n0, n1, 3, a1, ⟨#[]⟩, n2, x⟩ = R) := ⟨_, Lib.hid rfl⟩
              have z0 := YF.out.cell 0 rfl
              have z1 := YF.out.cell 1 rfl
              have z2 := YF.out.cell 2 rfl
              have z3 := YF.out.cell 3 rfl
              have z4 := YF.out.cell 4 rfl
              have z5 := YF.out.cell 5 rfl
              have z6 := YF.out.cell 6 rfl
              go_wp2_with fail
              refine (implLog_is ⟨n0, n1, 3, a1, ⟨#[]⟩, n2, x⟩ R _ (by unfold maxLen; simp only; omega) hxs VF.out.libs.pow VF.out.tab HR.out).mono ?_
              rintro e w5 ⟨rfl, hb⟩
              have X5 := Lib.hid (XF.out.below hb XF.out.lt)
              have Y5 := Lib.hid (YF.out.below hb YF.out.lt)
              have B5 := Lib.hid (BF.out.trans (hb.mono BF.out.size))
              clear hb XF YF BF VF z0 z1 z2 z3 z4 z5 z6
              by_cases hR : R = t
              case neg =>
                have HN := Lib.hid (show ∀ r, ¬ LSpells t r from fun r h => hR (by rw [← HR.out, ← HS2.out r h]; exact h.2))
                have hq := ne_text hR
                clear hR
                go_wp2
                exact ⟨rfl, B5.out, Or.inr ⟨HN.out, rfl⟩⟩
              case pos =>
                have HY := Lib.hid (lspells_of HO.out (HR.out.trans hR))
                subst hR
                have hq : (R.toList == R.toList) = true := by simp
                have z0 := Y5.out.cell 0 rfl
                have z1 := Y5.out.cell 1 rfl
                have z2 := Y5.out.cell 2 rfl
                have z3 := Y5.out.cell 3 rfl
                have z4 := Y5.out.cell 4 rfl
                have z5 := Y5.out.cell 5 rfl
                have z6 := Y5.out.cell 6 rfl
                have c0 := X5.out.cell 0 rfl
                have c1 := X5.out.cell 1 rfl
                have c2 := X5.out.cell 2 rfl
                have c3 := X5.out.cell 3 rfl
                have c4 := X5.out.cell 4 rfl
                have c5 := X5.out.cell 5 rfl
                have c6 := X5.out.cell 6 rfl
                have f0 := X5.out.open_ 0
                have f1 := X5.out.open_ 1
                have f2 := X5.out.open_ 2
                have f3 := X5.out.open_ 3
                have f4 := X5.out.open_ 4
                have f5 := X5.out.open_ 5
                have f6 := X5.out.open_ 6
                have XE := Lib.hid (show Box _ w.heap.size [.int .i64 n0, .int .i64 n1, .int .i64 3, .string a1, .string ⟨#[]⟩, .int .i64 n2, .string x] from (((((((X5.out.set 0 (.int .i64 n0)).set 1 (.int .i64 n1)).set 2 (.int .i64 3)).set 3 (.string a1)).set 4 (.string ⟨#[]⟩)).set 5 (.int .i64 n2)).set 6 (.string x)))
                have BE := Lib.hid (((((((B5.out.setCell (p := ⟨w.heap.size, 0, none⟩) (Nat.le_refl _) (.int .i64 n0)).setCell (p := ⟨w.heap.size, 1, none⟩) (Nat.le_refl _) (.int .i64 n1)).setCell (p := ⟨w.heap.size, 2, none⟩) (Nat.le_refl _) (.int .i64 3)).setCell (p := ⟨w.heap.size, 3, none⟩) (Nat.le_refl _) (.string a1)).setCell (p := ⟨w.heap.size, 4, none⟩) (Nat.le_refl _) (.string ⟨#[]⟩)).setCell (p := ⟨w.heap.size, 5, none⟩) (Nat.le_refl _) (.int .i64 n2)).setCell (p := ⟨w.heap.size, 6, none⟩) (Nat.le_refl _) (.string x))
                go_wp2
                have y0 := XE.out.cell 0 rfl
                have y1 := XE.out.cell 1 rfl
                have y2 := XE.out.cell 2 rfl
                have y3 := XE.out.cell 3 rfl
                have y4 := XE.out.cell 4 rfl
                have y5 := XE.out.cell 5 rfl
                have y6 := XE.out.cell 6 rfl
                refine bodyPost_ret (v := rv ⟨n0, n1, 3, a1, ⟨#[]⟩, n2, x⟩) ?_ rfl ⟨BE.out, Or.inl ⟨_, HY.out, rfl⟩⟩
                simp [results, Tryz.results41, go_sem, y0, y1, y2, y3, y4, y5, y6]
            · have hway : True := trivial
              have hnw5 := Below.new (w := wt4) (.cells #[.int .i64 0, .int .i64 0, .int .i64 0, .string ⟨#[]⟩, .string ⟨#[]⟩, .int .i64 0, .string ⟨#[]⟩] 26)
              have hX5 := Box.below hX4 hnw5 (Box.lt hX4)
              have hB5 := Below.trans hB4 (Below.mono hnw5 (Below.size hB4))
              have hV5 := LogVars.below hV4 hnw5
              have hbl5 := Nat.lt_of_lt_of_le hbl4 (Below.size hnw5)
              have hS5 : (wt4.alloc (.cells #[.int .i64 0, .int .i64 0, .int .i64 0, .string ⟨#[]⟩, .string ⟨#[]⟩, .int .i64 0, .string ⟨#[]⟩] 26)).cell? ⟨b, off, none⟩ = some (.string a0) ∧ (wt4.alloc (.cells #[.int .i64 0, .int .i64 0, .int .i64 0, .string ⟨#[]⟩, .string ⟨#[]⟩, .int .i64 0, .string ⟨#[]⟩] 26)).cell? ⟨b, off + 1, none⟩ = some (.string a1) ∧ (wt4.alloc (.cells #[.int .i64 0, .int .i64 0, .int .i64 0, .string ⟨#[]⟩, .string ⟨#[]⟩, .int .i64 0, .string ⟨#[]⟩] 26)).cell? ⟨b, off + 2, none⟩ = some (.string a2) ∧ (wt4.alloc (.cells #[.int .i64 0, .int .i64 0, .int .i64 0, .string ⟨#[]⟩, .string ⟨#[]⟩, .int .i64 0, .string ⟨#[]⟩] 26)).cell? ⟨b, off + 3, none⟩ = some (.string a3) ∧ (wt4.alloc (.cells #[.int .i64 0, .int .i64 0, .int .i64 0, .string ⟨#[]⟩, .string ⟨#[]⟩, .int .i64 0, .string ⟨#[]⟩] 26)).cell? ⟨b, off + 4, none⟩ = some (.string a4) := ⟨(Below.cell hnw5 hbl4).trans hS4.1, (Below.cell hnw5 hbl4).trans hS4.2.1, (Below.cell hnw5 hbl4).trans hS4.2.2.1, (Below.cell hnw5 hbl4).trans hS4.2.2.2.1, (Below.cell hnw5 hbl4).trans hS4.2.2.2.2⟩
              have hY5 := box_new wt4 #[.int .i64 0, .int .i64 0, .int .i64 0, .string ⟨#[]⟩, .string ⟨#[]⟩, .int .i64 0, .string ⟨#[]⟩] 26
              have hP5 : Below wt4.heap.size wt4 (wt4.alloc (.cells #[.int .i64 0, .int .i64 0, .int .i64 0, .string ⟨#[]⟩, .string ⟨#[]⟩, .int .i64 0, .string ⟨#[]⟩] 26)) := hnw5
              go_simp
              refine hK.out _ _ hS5 (fun hHeld5 => ?_)
              clear hK K
              try simp only [Act.put]
              clear hnw5
              try (change wpAnyH _ _ _ _ _ _ _ _ (wt4.alloc (.cells #[.int .i64 0, .int .i64 0, .int .i64 0, .string ⟨#[]⟩, .string ⟨#[]⟩, .int .i64 0, .string ⟨#[]⟩] 26)))
              generalize (wt4.alloc (.cells #[.int .i64 0, .int .i64 0, .int .i64 0, .string ⟨#[]⟩, .string ⟨#[]⟩, .int .i64 0, .string ⟨#[]⟩] 26)) = wa5 at hX5 hB5 hV5 hbl5 hS5 hY5 hP5 ⊢
              refine wpAnyH_ready (rs := [25]) (by kernel_rfl) (by simp) ?_
              refine AllReadyH.cons rfl (fun K hK => ?_) (AllReadyH.nil)
              go_simp
              go_at_call 114
              refine (recOf_any n0 n1 n3 n4 n2 a1 (textOf a3) _).mono ?_
              rintro e wt6 ⟨rfl, hb6⟩
              have hX6 := Box.below hX5 hb6 (Box.lt hX5)
              have hB6 := Below.trans hB5 (Below.mono hb6 (Below.size hB5))
              have hV6 := LogVars.below hV5 hb6
              have hbl6 := Nat.lt_of_lt_of_le hbl5 (Below.size hb6)
              have hS6 : wt6.cell? ⟨b, off, none⟩ = some (.string a0) ∧ wt6.cell? ⟨b, off + 1, none⟩ = some (.string a1) ∧ wt6.cell? ⟨b, off + 2, none⟩ = some (.string a2) ∧ wt6.cell? ⟨b, off + 3, none⟩ = some (.string a3) ∧ wt6.cell? ⟨b, off + 4, none⟩ = some (.string a4) := ⟨(Below.cell hb6 hbl5).trans hS5.1, (Below.cell hb6 hbl5).trans hS5.2.1, (Below.cell hb6 hbl5).trans hS5.2.2.1, (Below.cell hb6 hbl5).trans hS5.2.2.2.1, (Below.cell hb6 hbl5).trans hS5.2.2.2.2⟩
              have hY6 := Box.below hY5 hb6 (Box.lt hY5)
              have hP6 := Below.trans hP5 (Below.mono hb6 (Below.size hP5))
              go_wp2_with fail
              refine hK.out _ _ hS6 (fun hHeld6 => ?_)
              clear hK K
              try simp only [Act.put]
              refine wpAnyH_ready (rs := [27]) (by kernel_rfl) (by simp) ?_
              refine AllReadyH.cons rfl (fun K hK => ?_) (AllReadyH.nil)
              have k0 := Box.cell hY6 0 rfl
              have k1 := Box.cell hY6 1 rfl
              have k2 := Box.cell hY6 2 rfl
              have k3 := Box.cell hY6 3 rfl
              have k4 := Box.cell hY6 4 rfl
              have k5 := Box.cell hY6 5 rfl
              have k6 := Box.cell hY6 6 rfl
              have q0 := Box.open_ hY6 0
              have q1 := Box.open_ hY6 1
              have q2 := Box.open_ hY6 2
              have q3 := Box.open_ hY6 3
              have q4 := Box.open_ hY6 4
              have q5 := Box.open_ hY6 5
              have q6 := Box.open_ hY6 6
              have hPF : Below wt4.heap.size _ (((((((wt6.setCell ⟨wt4.heap.size, 0, none⟩ (.int .i64 n0)).setCell ⟨wt4.heap.size, 1, none⟩ (.int .i64 n1)).setCell ⟨wt4.heap.size, 2, none⟩ (.int .i64 3)).setCell ⟨wt4.heap.size, 3, none⟩ (.string a1)).setCell ⟨wt4.heap.size, 4, none⟩ (.string ⟨#[]⟩)).setCell ⟨wt4.heap.size, 5, none⟩ (.int .i64 n2)).setCell ⟨wt4.heap.size, 6, none⟩ (.string (textOf a3))) := (((((((hP6.setCell (p := ⟨wt4.heap.size, 0, none⟩) (Nat.le_refl _) (.int .i64 n0)).setCell (p := ⟨wt4.heap.size, 1, none⟩) (Nat.le_refl _) (.int .i64 n1)).setCell (p := ⟨wt4.heap.size, 2, none⟩) (Nat.le_refl _) (.int .i64 3)).setCell (p := ⟨wt4.heap.size, 3, none⟩) (Nat.le_refl _) (.string a1)).setCell (p := ⟨wt4.heap.size, 4, none⟩) (Nat.le_refl _) (.string ⟨#[]⟩)).setCell (p := ⟨wt4.heap.size, 5, none⟩) (Nat.le_refl _) (.int .i64 n2)).setCell (p := ⟨wt4.heap.size, 6, none⟩) (Nat.le_refl _) (.string (textOf a3)))
              have hYF : Box (((((((wt6.setCell ⟨wt4.heap.size, 0, none⟩ (.int .i64 n0)).setCell ⟨wt4.heap.size, 1, none⟩ (.int .i64 n1)).setCell ⟨wt4.heap.size, 2, none⟩ (.int .i64 3)).setCell ⟨wt4.heap.size, 3, none⟩ (.string a1)).setCell ⟨wt4.heap.size, 4, none⟩ (.string ⟨#[]⟩)).setCell ⟨wt4.heap.size, 5, none⟩ (.int .i64 n2)).setCell ⟨wt4.heap.size, 6, none⟩ (.string (textOf a3))) wt4.heap.size [.int .i64 n0, .int .i64 n1, .int .i64 3, .string a1, .string ⟨#[]⟩, .int .i64 n2, .string (textOf a3)] := (((((((hY6.set 0 (.int .i64 n0)).set 1 (.int .i64 n1)).set 2 (.int .i64 3)).set 3 (.string a1)).set 4 (.string ⟨#[]⟩)).set 5 (.int .i64 n2)).set 6 (.string (textOf a3)))
              have hXF := Box.below hX4 hPF (Box.lt hX4)
              have hBF := Below.trans hB4 (Below.mono hPF (Below.size hB4))
              have hVF := LogVars.below hV4 hPF
              have hSF : (((((((wt6.setCell ⟨wt4.heap.size, 0, none⟩ (.int .i64 n0)).setCell ⟨wt4.heap.size, 1, none⟩ (.int .i64 n1)).setCell ⟨wt4.heap.size, 2, none⟩ (.int .i64 3)).setCell ⟨wt4.heap.size, 3, none⟩ (.string a1)).setCell ⟨wt4.heap.size, 4, none⟩ (.string ⟨#[]⟩)).setCell ⟨wt4.heap.size, 5, none⟩ (.int .i64 n2)).setCell ⟨wt4.heap.size, 6, none⟩ (.string (textOf a3))).cell? ⟨b, off, none⟩ = some (.string a0) ∧ (((((((wt6.setCell ⟨wt4.heap.size, 0, none⟩ (.int .i64 n0)).setCell ⟨wt4.heap.size, 1, none⟩ (.int .i64 n1)).setCell ⟨wt4.heap.size, 2, none⟩ (.int .i64 3)).setCell ⟨wt4.heap.size, 3, none⟩ (.string a1)).setCell ⟨wt4.heap.size, 4, none⟩ (.string ⟨#[]⟩)).setCell ⟨wt4.heap.size, 5, none⟩ (.int .i64 n2)).setCell ⟨wt4.heap.size, 6, none⟩ (.string (textOf a3))).cell? ⟨b, off + 1, none⟩ = some (.string a1) ∧ (((((((wt6.setCell ⟨wt4.heap.size, 0, none⟩ (.int .i64 n0)).setCell ⟨wt4.heap.size, 1, none⟩ (.int .i64 n1)).setCell ⟨wt4.heap.size, 2, none⟩ (.int .i64 3)).setCell ⟨wt4.heap.size, 3, none⟩ (.string a1)).setCell ⟨wt4.heap.size, 4, none⟩ (.string ⟨#[]⟩)).setCell ⟨wt4.heap.size, 5, none⟩ (.int .i64 n2)).setCell ⟨wt4.heap.size, 6, none⟩ (.string (textOf a3))).cell? ⟨b, off + 2, none⟩ = some (.string a2) ∧ (((((((wt6.setCell ⟨wt4.heap.size, 0, none⟩ (.int .i64 n0)).setCell ⟨wt4.heap.size, 1, none⟩ (.int .i64 n1)).setCell ⟨wt4.heap.size, 2, none⟩ (.int .i64 3)).setCell ⟨wt4.heap.size, 3, none⟩ (.string a1)).setCell ⟨wt4.heap.size, 4, none⟩ (.string ⟨#[]⟩)).setCell ⟨wt4.heap.size, 5, none⟩ (.int .i64 n2)).setCell ⟨wt4.heap.size, 6, none⟩ (.string (textOf a3))).cell? ⟨b, off + 3, none⟩ = some (.string a3) ∧ (((((((wt6.setCell ⟨wt4.heap.size, 0, none⟩ (.int .i64 n0)).setCell ⟨wt4.heap.size, 1, none⟩ (.int .i64 n1)).setCell ⟨wt4.heap.size, 2, none⟩ (.int .i64 3)).setCell ⟨wt4.heap.size, 3, none⟩ (.string a1)).setCell ⟨wt4.heap.size, 4, none⟩ (.string ⟨#[]⟩)).setCell ⟨wt4.heap.size, 5, none⟩ (.int .i64 n2)).setCell ⟨wt4.heap.size, 6, none⟩ (.string (textOf a3))).cell? ⟨b, off + 4, none⟩ = some (.string a4) := ⟨(Below.cell hPF hbl4).trans hS4.1, (Below.cell hPF hbl4).trans hS4.2.1, (Below.cell hPF hbl4).trans hS4.2.2.1, (Below.cell hPF hbl4).trans hS4.2.2.2.1, (Below.cell hPF hbl4).trans hS4.2.2.2.2⟩
              go_simp
              refine hK.out _ _ hSF (fun hHeld7 => ?_)
              clear hK K
              try simp only [Act.put]
              try (change wpAnyH _ _ _ _ _ _ _ _ (((((((wt6.setCell ⟨wt4.heap.size, 0, none⟩ (.int .i64 n0)).setCell ⟨wt4.heap.size, 1, none⟩ (.int .i64 n1)).setCell ⟨wt4.heap.size, 2, none⟩ (.int .i64 3)).setCell ⟨wt4.heap.size, 3, none⟩ (.string a1)).setCell ⟨wt4.heap.size, 4, none⟩ (.string ⟨#[]⟩)).setCell ⟨wt4.heap.size, 5, none⟩ (.int .i64 n2)).setCell ⟨wt4.heap.size, 6, none⟩ (.string (textOf a3))))
              clear hPF hSF
              generalize (((((((wt6.setCell ⟨wt4.heap.size, 0, none⟩ (.int .i64 n0)).setCell ⟨wt4.heap.size, 1, none⟩ (.int .i64 n1)).setCell ⟨wt4.heap.size, 2, none⟩ (.int .i64 3)).setCell ⟨wt4.heap.size, 3, none⟩ (.string a1)).setCell ⟨wt4.heap.size, 4, none⟩ (.string ⟨#[]⟩)).setCell ⟨wt4.heap.size, 5, none⟩ (.int .i64 n2)).setCell ⟨wt4.heap.size, 6, none⟩ (.string (textOf a3))) = wF at hYF hXF hBF hVF ⊢
              refine wpAnyH_done (by kernel_rfl) ?_ _
              go_simp
              have YF := Lib.hid hYF
              have XF := Lib.hid hXF
              have BF := Lib.hid hBF
              have VF := Lib.hid hVF
              clear hYF hXF hBF hVF
              have HS2 := Lib.hid (show ∀ r, LSpells t r → r = ⟨n0, n1, 3, a1, ⟨#[]⟩, n2, textOf a3⟩ from fun r h => by
                obtain ⟨m, q, k, hr, h1, h2, h3, hm, hk, _, _⟩ := HAT.out r h
                obtain ⟨e0, e1⟩ := HM0.out m q ⟨h1, h2, hm⟩
                have e2 : (k : Int) = n2 := by
                  have := HM2.out
                  rw [hk, atoi_digs k (by omega)] at this
                  injection this
                rw [hr, e0, e1, e2])
              have htx := textOf_size a3
              obtain ⟨x, HX⟩ : ∃ x, Hid (textOf a3 = x) := ⟨_, Lib.hid rfl⟩
              rw [HX.out] at htx HS2 YF ⊢
              have hxs : x.size ≤ maxLen := by unfold maxLen; omega
              obtain ⟨R, HR⟩ : ∃ R, Hid (logText ⟨n0, n1, 3, a1, ⟨#[]⟩, n2, x⟩ = R) := ⟨_, Lib.hid rfl⟩
              have z0 := YF.out.cell 0 rfl
              have z1 := YF.out.cell 1 rfl
              have z2 := YF.out.cell 2 rfl
              have z3 := YF.out.cell 3 rfl
              have z4 := YF.out.cell 4 rfl
              have z5 := YF.out.cell 5 rfl
              have z6 := YF.out.cell 6 rfl
              go_wp2_with fail
              refine (implLog_is ⟨n0, n1, 3, a1, ⟨#[]⟩, n2, x⟩ R _ (by unfold maxLen; simp only; omega) hxs VF.out.libs.pow VF.out.tab HR.out).mono ?_
              rintro e w5 ⟨rfl, hb⟩
              have X5 := Lib.hid (XF.out.below hb XF.out.lt)
              have Y5 := Lib.hid (YF.out.below hb YF.out.lt)
              have B5 := Lib.hid (BF.out.trans (hb.mono BF.out.size))
              clear hb XF YF BF VF z0 z1 z2 z3 z4 z5 z6
              by_cases hR : R = t
              case neg =>
                have HN := Lib.hid (show ∀ r, ¬ LSpells t r from fun r h => hR (by rw [← HR.out, ← HS2.out r h]; exact h.2))
                have hq := ne_text hR
                clear hR
                go_wp2
                exact ⟨rfl, B5.out, Or.inr ⟨HN.out, rfl⟩⟩
              case pos =>
                have HY := Lib.hid (lspells_of HO.out (HR.out.trans hR))
                subst hR
                have hq : (R.toList == R.toList) = true := by simp
                have z0 := Y5.out.cell 0 rfl
                have z1 := Y5.out.cell 1 rfl
                have z2 := Y5.out.cell 2 rfl
                have z3 := Y5.out.cell 3 rfl
                have z4 := Y5.out.cell 4 rfl
                have z5 := Y5.out.cell 5 rfl
                have z6 := Y5.out.cell 6 rfl
                have c0 := X5.out.cell 0 rfl
                have c1 := X5.out.cell 1 rfl
                have c2 := X5.out.cell 2 rfl
                have c3 := X5.out.cell 3 rfl
                have c4 := X5.out.cell 4 rfl
                have c5 := X5.out.cell 5 rfl
                have c6 := X5.out.cell 6 rfl
                have f0 := X5.out.open_ 0
                have f1 := X5.out.open_ 1
                have f2 := X5.out.open_ 2
                have f3 := X5.out.open_ 3
                have f4 := X5.out.open_ 4
                have f5 := X5.out.open_ 5
                have f6 := X5.out.open_ 6
                have XE := Lib.hid (show Box _ w.heap.size [.int .i64 n0, .int .i64 n1, .int .i64 3, .string a1, .string ⟨#[]⟩, .int .i64 n2, .string x] from (((((((X5.out.set 0 (.int .i64 n0)).set 1 (.int .i64 n1)).set 2 (.int .i64 3)).set 3 (.string a1)).set 4 (.string ⟨#[]⟩)).set 5 (.int .i64 n2)).set 6 (.string x)))
                have BE := Lib.hid (((((((B5.out.setCell (p := ⟨w.heap.size, 0, none⟩) (Nat.le_refl _) (.int .i64 n0)).setCell (p := ⟨w.heap.size, 1, none⟩) (Nat.le_refl _) (.int .i64 n1)).setCell (p := ⟨w.heap.size, 2, none⟩) (Nat.le_refl _) (.int .i64 3)).setCell (p := ⟨w.heap.size, 3, none⟩) (Nat.le_refl _) (.string a1)).setCell (p := ⟨w.heap.size, 4, none⟩) (Nat.le_refl _) (.string ⟨#[]⟩)).setCell (p := ⟨w.heap.size, 5, none⟩) (Nat.le_refl _) (.int .i64 n2)).setCell (p := ⟨w.heap.size, 6, none⟩) (Nat.le_refl _) (.string x))
                go_wp2
                have y0 := XE.out.cell 0 rfl
                have y1 := XE.out.cell 1 rfl
                have y2 := XE.out.cell 2 rfl
                have y3 := XE.out.cell 3 rfl
                have y4 := XE.out.cell 4 rfl
                have y5 := XE.out.cell 5 rfl
                have y6 := XE.out.cell 6 rfl
                refine bodyPost_ret (v := rv ⟨n0, n1, 3, a1, ⟨#[]⟩, n2, x⟩) ?_ rfl ⟨BE.out, Or.inl ⟨_, HY.out, rfl⟩⟩
                simp [results, Tryz.results41, go_sem, y0, y1, y2, y3, y4, y5, y6]
          · have hway : True := trivial
            have hnw4 := Below.new (w := wt3) (.cells #[.int .i64 0, .int .i64 0, .int .i64 0, .string ⟨#[]⟩, .string ⟨#[]⟩, .int .i64 0, .string ⟨#[]⟩] 26)
            have hX4 := Box.below hX3 hnw4 (Box.lt hX3)
            have hB4 := Below.trans hB3 (Below.mono hnw4 (Below.size hB3))
            have hV4 := LogVars.below hV3 hnw4
            have hbl4 := Nat.lt_of_lt_of_le hbl3 (Below.size hnw4)
            have hS4 : (wt3.alloc (.cells #[.int .i64 0, .int .i64 0, .int .i64 0, .string ⟨#[]⟩, .string ⟨#[]⟩, .int .i64 0, .string ⟨#[]⟩] 26)).cell? ⟨b, off, none⟩ = some (.string a0) ∧ (wt3.alloc (.cells #[.int .i64 0, .int .i64 0, .int .i64 0, .string ⟨#[]⟩, .string ⟨#[]⟩, .int .i64 0, .string ⟨#[]⟩] 26)).cell? ⟨b, off + 1, none⟩ = some (.string a1) ∧ (wt3.alloc (.cells #[.int .i64 0, .int .i64 0, .int .i64 0, .string ⟨#[]⟩, .string ⟨#[]⟩, .int .i64 0, .string ⟨#[]⟩] 26)).cell? ⟨b, off + 2, none⟩ = some (.string a2) ∧ (wt3.alloc (.cells #[.int .i64 0, .int .i64 0, .int .i64 0, .string ⟨#[]⟩, .string ⟨#[]⟩, .int .i64 0, .string ⟨#[]⟩] 26)).cell? ⟨b, off + 3, none⟩ = some (.string a3) ∧ (wt3.alloc (.cells #[.int .i64 0, .int .i64 0, .int .i64 0, .string ⟨#[]⟩, .string ⟨#[]⟩, .int .i64 0, .string ⟨#[]⟩] 26)).cell? ⟨b, off + 4, none⟩ = some (.string a4) := ⟨(Below.cell hnw4 hbl3).trans hS3.1, (Below.cell hnw4 hbl3).trans hS3.2.1, (Below.cell hnw4 hbl3).trans hS3.2.2.1, (Below.cell hnw4 hbl3).trans hS3.2.2.2.1, (Below.cell hnw4 hbl3).trans hS3.2.2.2.2⟩
            have hY4 := box_new wt3 #[.int .i64 0, .int .i64 0, .int .i64 0, .string ⟨#[]⟩, .string ⟨#[]⟩, .int .i64 0, .string ⟨#[]⟩] 26
            have hP4 : Below wt3.heap.size wt3 (wt3.alloc (.cells #[.int .i64 0, .int .i64 0, .int .i64 0, .string ⟨#[]⟩, .string ⟨#[]⟩, .int .i64 0, .string ⟨#[]⟩] 26)) := hnw4
            go_simp
            refine hK.out _ _ hS4 (fun hHeld4 => ?_)
            clear hK K
            try simp only [Act.put]
            clear hnw4
            try (change wpAnyH _ _ _ _ _ _ _ _ (wt3.alloc (.cells #[.int .i64 0, .int .i64 0, .int .i64 0, .string ⟨#[]⟩, .string ⟨#[]⟩, .int .i64 0, .string ⟨#[]⟩] 26)))
            generalize (wt3.alloc (.cells #[.int .i64 0, .int .i64 0, .int .i64 0, .string ⟨#[]⟩, .string ⟨#[]⟩, .int .i64 0, .string ⟨#[]⟩] 26)) = wa4 at hX4 hB4 hV4 hbl4 hS4 hY4 hP4 ⊢
            refine wpAnyH_ready (rs := [22]) (by kernel_rfl) (by simp) ?_
            refine AllReadyH.cons rfl (fun K hK => ?_) (AllReadyH.nil)
            go_simp
            go_at_call 115
            refine (markOf_any a4 _ (by omega) hV4.libs).mono ?_
            rintro e wt5 ⟨hb5, hh5⟩
            have hX5 := Box.below hX4 hb5 (Box.lt hX4)
            have hB5 := Below.trans hB4 (Below.mono hb5 (Below.size hB4))
            have hV5 := LogVars.below hV4 hb5
            have hbl5 := Nat.lt_of_lt_of_le hbl4 (Below.size hb5)
            have hS5 : wt5.cell? ⟨b, off, none⟩ = some (.string a0) ∧ wt5.cell? ⟨b, off + 1, none⟩ = some (.string a1) ∧ wt5.cell? ⟨b, off + 2, none⟩ = some (.string a2) ∧ wt5.cell? ⟨b, off + 3, none⟩ = some (.string a3) ∧ wt5.cell? ⟨b, off + 4, none⟩ = some (.string a4) := ⟨(Below.cell hb5 hbl4).trans hS4.1, (Below.cell hb5 hbl4).trans hS4.2.1, (Below.cell hb5 hbl4).trans hS4.2.2.1, (Below.cell hb5 hbl4).trans hS4.2.2.2.1, (Below.cell hb5 hbl4).trans hS4.2.2.2.2⟩
            have hY5 := Box.below hY4 hb5 (Box.lt hY4)
            have hP5 := Below.trans hP4 (Below.mono hb5 (Below.size hP4))
            rcases hh5 with ⟨n3, n4, -, rfl⟩ | ⟨hm4, rfl⟩
            rotate_left
            · have HPN := Lib.hid (NO4.out hm4)
              go_wp2
              exact ⟨rfl, hB5, Or.inr ⟨HPN.out, rfl⟩⟩
            go_wp2_with fail
            refine hK.out _ _ hS5 (fun hHeld5 => ?_)
            clear hK K
            try simp only [Act.put]
            refine wpAnyH_take (i := 23) (v := ?_) rfl (by kernel_rfl) (by kernel_rfl) (by kernel_rfl) (fun _ _ _ h => h) (Or.inl ⟨by rfl, ?_⟩) (by assumption) ?_
            rotate_left
            · (intro w' hSw; (try dsimp only at hSw); obtain ⟨hc0, hc1, hc2, hc3, hc4⟩ := hSw; go_simp; try with_reducible rfl)
            try simp only [Act.put]
            refine wpAnyH_take (i := 24) (v := ?_) rfl (by kernel_rfl) (by kernel_rfl) (by kernel_rfl) (fun _ _ _ h => h) (Or.inl ⟨by rfl, ?_⟩) (by assumption) ?_
            rotate_left
            · (intro w' hSw; (try dsimp only at hSw); obtain ⟨hc0, hc1, hc2, hc3, hc4⟩ := hSw; go_simp; try with_reducible rfl)
            try simp only [Act.put]
            refine wpAnyH_ready (rs := [25]) (by kernel_rfl) (by simp) ?_
            refine AllReadyH.cons rfl (fun K hK => ?_) (AllReadyH.nil)
            go_simp
            go_at_call 114
            refine (recOf_any n0 n1 n3 n4 n2 a1 (textOf a3) _).mono ?_
            rintro e wt6 ⟨rfl, hb6⟩
            have hX6 := Box.below hX5 hb6 (Box.lt hX5)
            have hB6 := Below.trans hB5 (Below.mono hb6 (Below.size hB5))
            have hV6 := LogVars.below hV5 hb6
            have hbl6 := Nat.lt_of_lt_of_le hbl5 (Below.size hb6)
            have hS6 : wt6.cell? ⟨b, off, none⟩ = some (.string a0) ∧ wt6.cell? ⟨b, off + 1, none⟩ = some (.string a1) ∧ wt6.cell? ⟨b, off + 2, none⟩ = some (.string a2) ∧ wt6.cell? ⟨b, off + 3, none⟩ = some (.string a3) ∧ wt6.cell? ⟨b, off + 4, none⟩ = some (.string a4) := ⟨(Below.cell hb6 hbl5).trans hS5.1, (Below.cell hb6 hbl5).trans hS5.2.1, (Below.cell hb6 hbl5).trans hS5.2.2.1, (Below.cell hb6 hbl5).trans hS5.2.2.2.1, (Below.cell hb6 hbl5).trans hS5.2.2.2.2⟩
            have hY6 := Box.below hY5 hb6 (Box.lt hY5)
            have hP6 := Below.trans hP5 (Below.mono hb6 (Below.size hP5))
            go_wp2_with fail
            refine hK.out _ _ hS6 (fun hHeld6 => ?_)
            clear hK K
            try simp only [Act.put]
            refine wpAnyH_ready (rs := [27]) (by kernel_rfl) (by simp) ?_
            refine AllReadyH.cons rfl (fun K hK => ?_) (AllReadyH.nil)
            have k0 := Box.cell hY6 0 rfl
            have k1 := Box.cell hY6 1 rfl
            have k2 := Box.cell hY6 2 rfl
            have k3 := Box.cell hY6 3 rfl
            have k4 := Box.cell hY6 4 rfl
            have k5 := Box.cell hY6 5 rfl
            have k6 := Box.cell hY6 6 rfl
            have q0 := Box.open_ hY6 0
            have q1 := Box.open_ hY6 1
            have q2 := Box.open_ hY6 2
            have q3 := Box.open_ hY6 3
            have q4 := Box.open_ hY6 4
            have q5 := Box.open_ hY6 5
            have q6 := Box.open_ hY6 6
            have hPF : Below wt3.heap.size _ (((((((wt6.setCell ⟨wt3.heap.size, 0, none⟩ (.int .i64 n0)).setCell ⟨wt3.heap.size, 1, none⟩ (.int .i64 n1)).setCell ⟨wt3.heap.size, 2, none⟩ (.int .i64 3)).setCell ⟨wt3.heap.size, 3, none⟩ (.string a1)).setCell ⟨wt3.heap.size, 4, none⟩ (.string ⟨#[]⟩)).setCell ⟨wt3.heap.size, 5, none⟩ (.int .i64 n2)).setCell ⟨wt3.heap.size, 6, none⟩ (.string (textOf a3))) := (((((((hP6.setCell (p := ⟨wt3.heap.size, 0, none⟩) (Nat.le_refl _) (.int .i64 n0)).setCell (p := ⟨wt3.heap.size, 1, none⟩) (Nat.le_refl _) (.int .i64 n1)).setCell (p := ⟨wt3.heap.size, 2, none⟩) (Nat.le_refl _) (.int .i64 3)).setCell (p := ⟨wt3.heap.size, 3, none⟩) (Nat.le_refl _) (.string a1)).setCell (p := ⟨wt3.heap.size, 4, none⟩) (Nat.le_refl _) (.string ⟨#[]⟩)).setCell (p := ⟨wt3.heap.size, 5, none⟩) (Nat.le_refl _) (.int .i64 n2)).setCell (p := ⟨wt3.heap.size, 6, none⟩) (Nat.le_refl _) (.string (textOf a3)))
            have hYF : Box (((((((wt6.setCell ⟨wt3.heap.size, 0, none⟩ (.int .i64 n0)).setCell ⟨wt3.heap.size, 1, none⟩ (.int .i64 n1)).setCell ⟨wt3.heap.size, 2, none⟩ (.int .i64 3)).setCell ⟨wt3.heap.size, 3, none⟩ (.string a1)).setCell ⟨wt3.heap.size, 4, none⟩ (.string ⟨#[]⟩)).setCell ⟨wt3.heap.size, 5, none⟩ (.int .i64 n2)).setCell ⟨wt3.heap.size, 6, none⟩ (.string (textOf a3))) wt3.heap.size [.int .i64 n0, .int .i64 n1, .int .i64 3, .string a1, .string ⟨#[]⟩, .int .i64 n2, .string (textOf a3)] := (((((((hY6.set 0 (.int .i64 n0)).set 1 (.int .i64 n1)).set 2 (.int .i64 3)).set 3 (.string a1)).set 4 (.string ⟨#[]⟩)).set 5 (.int .i64 n2)).set 6 (.string (textOf a3)))
            have hXF := Box.below hX3 hPF (Box.lt hX3)
            have hBF := Below.trans hB3 (Below.mono hPF (Below.size hB3))
            have hVF := LogVars.below hV3 hPF
            have hSF : (((((((wt6.setCell ⟨wt3.heap.size, 0, none⟩ (.int .i64 n0)).setCell ⟨wt3.heap.size, 1, none⟩ (.int .i64 n1)).setCell ⟨wt3.heap.size, 2, none⟩ (.int .i64 3)).setCell ⟨wt3.heap.size, 3, none⟩ (.string a1)).setCell ⟨wt3.heap.size, 4, none⟩ (.string ⟨#[]⟩)).setCell ⟨wt3.heap.size, 5, none⟩ (.int .i64 n2)).setCell ⟨wt3.heap.size, 6, none⟩ (.string (textOf a3))).cell? ⟨b, off, none⟩ = some (.string a0) ∧ (((((((wt6.setCell ⟨wt3.heap.size, 0, none⟩ (.int .i64 n0)).setCell ⟨wt3.heap.size, 1, none⟩ (.int .i64 n1)).setCell ⟨wt3.heap.size, 2, none⟩ (.int .i64 3)).setCell ⟨wt3.heap.size, 3, none⟩ (.string a1)).setCell ⟨wt3.heap.size, 4, none⟩ (.string ⟨#[]⟩)).setCell ⟨wt3.heap.size, 5, none⟩ (.int .i64 n2)).setCell ⟨wt3.heap.size, 6, none⟩ (.string (textOf a3))).cell? ⟨b, off + 1, none⟩ = some (.string a1) ∧ (((((((wt6.setCell ⟨wt3.heap.size, 0, none⟩ (.int .i64 n0)).setCell ⟨wt3.heap.size, 1, none⟩ (.int .i64 n1)).setCell ⟨wt3.heap.size, 2, none⟩ (.int .i64 3)).setCell ⟨wt3.heap.size, 3, none⟩ (.string a1)).setCell ⟨wt3.heap.size, 4, none⟩ (.string ⟨#[]⟩)).setCell ⟨wt3.heap.size, 5, none⟩ (.int .i64 n2)).setCell ⟨wt3.heap.size, 6, none⟩ (.string (textOf a3))).cell? ⟨b, off + 2, none⟩ = some (.string a2) ∧ (((((((wt6.setCell ⟨wt3.heap.size, 0, none⟩ (.int .i64 n0)).setCell ⟨wt3.heap.size, 1, none⟩ (.int .i64 n1)).setCell ⟨wt3.heap.size, 2, none⟩ (.int .i64 3)).setCell ⟨wt3.heap.size, 3, none⟩ (.string a1)).setCell ⟨wt3.heap.size, 4, none⟩ (.string ⟨#[]⟩)).setCell ⟨wt3.heap.size, 5, none⟩ (.int .i64 n2)).setCell ⟨wt3.heap.size, 6, none⟩ (.string (textOf a3))).cell? ⟨b, off + 3, none⟩ = some (.string a3) ∧ (((((((wt6.setCell ⟨wt3.heap.size, 0, none⟩ (.int .i64 n0)).setCell ⟨wt3.heap.size, 1, none⟩ (.int .i64 n1)).setCell ⟨wt3.heap.size, 2, none⟩ (.int .i64 3)).setCell ⟨wt3.heap.size, 3, none⟩ (.string a1)).setCell ⟨wt3.heap.size, 4, none⟩ (.string ⟨#[]⟩)).setCell ⟨wt3.heap.size, 5, none⟩ (.int .i64 n2)).setCell ⟨wt3.heap.size, 6, none⟩ (.string (textOf a3))).cell? ⟨b, off + 4, none⟩ = some (.string a4) := ⟨(Below.cell hPF hbl3).trans hS3.1, (Below.cell hPF hbl3).trans hS3.2.1, (Below.cell hPF hbl3).trans hS3.2.2.1, (Below.cell hPF hbl3).trans hS3.2.2.2.1, (Below.cell hPF hbl3).trans hS3.2.2.2.2⟩
            go_simp
            refine hK.out _ _ hSF (fun hHeld7 => ?_)
            clear hK K
            try simp only [Act.put]
            try (change wpAnyH _ _ _ _ _ _ _ _ (((((((wt6.setCell ⟨wt3.heap.size, 0, none⟩ (.int .i64 n0)).setCell ⟨wt3.heap.size, 1, none⟩ (.int .i64 n1)).setCell ⟨wt3.heap.size, 2, none⟩ (.int .i64 3)).setCell ⟨wt3.heap.size, 3, none⟩ (.string a1)).setCell ⟨wt3.heap.size, 4, none⟩ (.string ⟨#[]⟩)).setCell ⟨wt3.heap.size, 5, none⟩ (.int .i64 n2)).setCell ⟨wt3.heap.size, 6, none⟩ (.string (textOf a3))))
            clear hPF hSF
            generalize (((((((wt6.setCell ⟨wt3.heap.size, 0, none⟩ (.int .i64 n0)).setCell ⟨wt3.heap.size, 1, none⟩ (.int .i64 n1)).setCell ⟨wt3.heap.size, 2, none⟩ (.int .i64 3)).setCell ⟨wt3.heap.size, 3, none⟩ (.string a1)).setCell ⟨wt3.heap.size, 4, none⟩ (.string ⟨#[]⟩)).setCell ⟨wt3.heap.size, 5, none⟩ (.int .i64 n2)).setCell ⟨wt3.heap.size, 6, none⟩ (.string (textOf a3))) = wF at hYF hXF hBF hVF ⊢
            refine wpAnyH_done (by kernel_rfl) ?_ _
            go_simp
            have YF := Lib.hid hYF
            have XF := Lib.hid hXF
            have BF := Lib.hid hBF
            have VF := Lib.hid hVF
            clear hYF hXF hBF hVF
            have HS2 := Lib.hid (show ∀ r, LSpells t r → r = ⟨n0, n1, 3, a1, ⟨#[]⟩, n2, textOf a3⟩ from fun r h => by
              obtain ⟨m, q, k, hr, h1, h2, h3, hm, hk, _, _⟩ := HAT.out r h
              obtain ⟨e0, e1⟩ := HM0.out m q ⟨h1, h2, hm⟩
              have e2 : (k : Int) = n2 := by
                have := HM2.out
                rw [hk, atoi_digs k (by omega)] at this
                injection this
              rw [hr, e0, e1, e2])
            have htx := textOf_size a3
            obtain ⟨x, HX⟩ : ∃ x, Hid (textOf a3 = x) := ⟨_, Lib.hid rfl⟩
            rw [HX.out] at htx HS2 YF ⊢
            have hxs : x.size ≤ maxLen := by unfold maxLen; omega
            obtain ⟨R, HR⟩ : ∃ R, Hid (logText ⟨n0, n1, 3, a1, ⟨#[]⟩, n2, x⟩ = R) := ⟨_, Lib.hid rfl⟩
            have z0 := YF.out.cell 0 rfl
            have z1 := YF.out.cell 1 rfl
            have z2 := YF.out.cell 2 rfl
            have z3 := YF.out.cell 3 rfl
            have z4 := YF.out.cell 4 rfl
            have z5 := YF.out.cell 5 rfl
            have z6 := YF.out.cell 6 rfl
            go_wp2_with fail
            refine (implLog_is ⟨n0, n1, 3, a1, ⟨#[]⟩, n2, x⟩ R _ (by unfold maxLen; simp only; omega) hxs VF.out.libs.pow VF.out.tab HR.out).mono ?_
            rintro e w5 ⟨rfl, hb⟩
            have X5 := Lib.hid (XF.out.below hb XF.out.lt)
            have Y5 := Lib.hid (YF.out.below hb YF.out.lt)
            have B5 := Lib.hid (BF.out.trans (hb.mono BF.out.size))
            clear hb XF YF BF VF z0 z1 z2 z3 z4 z5 z6
            by_cases hR : R = t
            case neg =>
              have HN := Lib.hid (show ∀ r, ¬ LSpells t r from fun r h => hR (by rw [← HR.out, ← HS2.out r h]; exact h.2))
              have hq := ne_text hR
              clear hR
              go_wp2
              exact ⟨rfl, B5.out, Or.inr ⟨HN.out, rfl⟩⟩
            case pos =>
              have HY := Lib.hid (lspells_of HO.out (HR.out.trans hR))
              subst hR
              have hq : (R.toList == R.toList) = true := by simp
              have z0 := Y5.out.cell 0 rfl
              have z1 := Y5.out.cell 1 rfl
              have z2 := Y5.out.cell 2 rfl
              have z3 := Y5.out.cell 3 rfl
              have z4 := Y5.out.cell 4 rfl
              have z5 := Y5.out.cell 5 rfl
              have z6 := Y5.out.cell 6 rfl
              have c0 := X5.out.cell 0 rfl
              have c1 := X5.out.cell 1 rfl
              have c2 := X5.out.cell 2 rfl
              have c3 := X5.out.cell 3 rfl
              have c4 := X5.out.cell 4 rfl
              have c5 := X5.out.cell 5 rfl
              have c6 := X5.out.cell 6 rfl
              have f0 := X5.out.open_ 0
              have f1 := X5.out.open_ 1
              have f2 := X5.out.open_ 2
              have f3 := X5.out.open_ 3
              have f4 := X5.out.open_ 4
              have f5 := X5.out.open_ 5
              have f6 := X5.out.open_ 6
              have XE := Lib.hid (show Box _ w.heap.size [.int .i64 n0, .int .i64 n1, .int .i64 3, .string a1, .string ⟨#[]⟩, .int .i64 n2, .string x] from (((((((X5.out.set 0 (.int .i64 n0)).set 1 (.int .i64 n1)).set 2 (.int .i64 3)).set 3 (.string a1)).set 4 (.string ⟨#[]⟩)).set 5 (.int .i64 n2)).set 6 (.string x)))
              have BE := Lib.hid (((((((B5.out.setCell (p := ⟨w.heap.size, 0, none⟩) (Nat.le_refl _) (.int .i64 n0)).setCell (p := ⟨w.heap.size, 1, none⟩) (Nat.le_refl _) (.int .i64 n1)).setCell (p := ⟨w.heap.size, 2, none⟩) (Nat.le_refl _) (.int .i64 3)).setCell (p := ⟨w.heap.size, 3, none⟩) (Nat.le_refl _) (.string a1)).setCell (p := ⟨w.heap.size, 4, none⟩) (Nat.le_refl _) (.string ⟨#[]⟩)).setCell (p := ⟨w.heap.size, 5, none⟩) (Nat.le_refl _) (.int .i64 n2)).setCell (p := ⟨w.heap.size, 6, none⟩) (Nat.le_refl _) (.string x))
              go_wp2
              have y0 := XE.out.cell 0 rfl
              have y1 := XE.out.cell 1 rfl
              have y2 := XE.out.cell 2 rfl
              have y3 := XE.out.cell 3 rfl
              have y4 := XE.out.cell 4 rfl
              have y5 := XE.out.cell 5 rfl
              have y6 := XE.out.cell 6 rfl
              refine bodyPost_ret (v := rv ⟨n0, n1, 3, a1, ⟨#[]⟩, n2, x⟩) ?_ rfl ⟨BE.out, Or.inl ⟨_, HY.out, rfl⟩⟩
              simp [results, Tryz.results41, go_sem, y0, y1, y2, y3, y4, y5, y6]
        · have hway : True := trivial
          have hnw3 := Below.new (w := wt2) (.cells #[.int .i64 0, .int .i64 0, .int .i64 0, .string ⟨#[]⟩, .string ⟨#[]⟩, .int .i64 0, .string ⟨#[]⟩] 26)
          have hX3 := Box.below hX2 hnw3 (Box.lt hX2)
          have hB3 := Below.trans hB2 (Below.mono hnw3 (Below.size hB2))
          have hV3 := LogVars.below hV2 hnw3
          have hbl3 := Nat.lt_of_lt_of_le hbl2 (Below.size hnw3)
          have hS3 : (wt2.alloc (.cells #[.int .i64 0, .int .i64 0, .int .i64 0, .string ⟨#[]⟩, .string ⟨#[]⟩, .int .i64 0, .string ⟨#[]⟩] 26)).cell? ⟨b, off, none⟩ = some (.string a0) ∧ (wt2.alloc (.cells #[.int .i64 0, .int .i64 0, .int .i64 0, .string ⟨#[]⟩, .string ⟨#[]⟩, .int .i64 0, .string ⟨#[]⟩] 26)).cell? ⟨b, off + 1, none⟩ = some (.string a1) ∧ (wt2.alloc (.cells #[.int .i64 0, .int .i64 0, .int .i64 0, .string ⟨#[]⟩, .string ⟨#[]⟩, .int .i64 0, .string ⟨#[]⟩] 26)).cell? ⟨b, off + 2, none⟩ = some (.string a2) ∧ (wt2.alloc (.cells #[.int .i64 0, .int .i64 0, .int .i64 0, .string ⟨#[]⟩, .string ⟨#[]⟩, .int .i64 0, .string ⟨#[]⟩] 26)).cell? ⟨b, off + 3, none⟩ = some (.string a3) ∧ (wt2.alloc (.cells #[.int .i64 0, .int .i64 0, .int .i64 0, .string ⟨#[]⟩, .string ⟨#[]⟩, .int .i64 0, .string ⟨#[]⟩] 26)).cell? ⟨b, off + 4, none⟩ = some (.string a4) := ⟨(Below.cell hnw3 hbl2).trans hS2.1, (Below.cell hnw3 hbl2).trans hS2.2.1, (Below.cell hnw3 hbl2).trans hS2.2.2.1, (Below.cell hnw3 hbl2).trans hS2.2.2.2.1, (Below.cell hnw3 hbl2).trans hS2.2.2.2.2⟩
          have hY3 := box_new wt2 #[.int .i64 0, .int .i64 0, .int .i64 0, .string ⟨#[]⟩, .string ⟨#[]⟩, .int .i64 0, .string ⟨#[]⟩] 26
          have hP3 : Below wt2.heap.size wt2 (wt2.alloc (.cells #[.int .i64 0, .int .i64 0, .int .i64 0, .string ⟨#[]⟩, .string ⟨#[]⟩, .int .i64 0, .string ⟨#[]⟩] 26)) := hnw3
          go_simp
          refine hK.out _ _ hS3 (fun hHeld3 => ?_)
          clear hK K
          try simp only [Act.put]
          clear hnw3
          try (change wpAnyH _ _ _ _ _ _ _ _ (wt2.alloc (.cells #[.int .i64 0, .int .i64 0, .int .i64 0, .string ⟨#[]⟩, .string ⟨#[]⟩, .int .i64 0, .string ⟨#[]⟩] 26)))
          generalize (wt2.alloc (.cells #[.int .i64 0, .int .i64 0, .int .i64 0, .string ⟨#[]⟩, .string ⟨#[]⟩, .int .i64 0, .string ⟨#[]⟩] 26)) = wa3 at hX3 hB3 hV3 hbl3 hS3 hY3 hP3 ⊢
          refine wpAnyH_ready (rs := [17]) (by kernel_rfl) (by simp) ?_
          refine AllReadyH.cons rfl (fun K hK => ?_) (AllReadyH.nil)
          go_simp
          go_at_call 117
          refine (bytesOf_any a3 _ (by omega) hV3.tab).mono ?_
          rintro e wt4 ⟨hb4, hh4⟩
          have hX4 := Box.below hX3 hb4 (Box.lt hX3)
          have hB4 := Below.trans hB3 (Below.mono hb4 (Below.size hB3))
          have hV4 := LogVars.below hV3 hb4
          have hbl4 := Nat.lt_of_lt_of_le hbl3 (Below.size hb4)
          have hS4 : wt4.cell? ⟨b, off, none⟩ = some (.string a0) ∧ wt4.cell? ⟨b, off + 1, none⟩ = some (.string a1) ∧ wt4.cell? ⟨b, off + 2, none⟩ = some (.string a2) ∧ wt4.cell? ⟨b, off + 3, none⟩ = some (.string a3) ∧ wt4.cell? ⟨b, off + 4, none⟩ = some (.string a4) := ⟨(Below.cell hb4 hbl3).trans hS3.1, (Below.cell hb4 hbl3).trans hS3.2.1, (Below.cell hb4 hbl3).trans hS3.2.2.1, (Below.cell hb4 hbl3).trans hS3.2.2.2.1, (Below.cell hb4 hbl3).trans hS3.2.2.2.2⟩
          have hY4 := Box.below hY3 hb4 (Box.lt hY3)
          have hP4 := Below.trans hP3 (Below.mono hb4 (Below.size hP3))
          rcases hh4 with rfl | ⟨hm3, hm3u, rfl⟩
          rotate_left
          · have HPN := Lib.hid (NO3.out hm3 hm3u)
            go_wp2
            exact ⟨rfl, hB4, Or.inr ⟨HPN.out, rfl⟩⟩
          go_wp2_with fail
          refine hK.out _ _ hS4 (fun hHeld4 => ?_)
          clear hK K
          try simp only [Act.put]
          refine wpAnyH_take (i := 18) (v := ?_) rfl (by kernel_rfl) (by kernel_rfl) (by kernel_rfl) (fun _ _ _ h => h) (Or.inl ⟨by rfl, ?_⟩) (by assumption) ?_
          rotate_left
          · (intro w' hSw; (try dsimp only at hSw); obtain ⟨hc0, hc1, hc2, hc3, hc4⟩ := hSw; go_simp; try with_reducible rfl)
          try simp only [Act.put]
          refine wpAnyH_ready (rs := [22]) (by kernel_rfl) (by simp) ?_
          refine AllReadyH.cons rfl (fun K hK => ?_) (AllReadyH.nil)
          go_simp
          go_at_call 115
          refine (markOf_any a4 _ (by omega) hV4.libs).mono ?_
          rintro e wt5 ⟨hb5, hh5⟩
          have hX5 := Box.below hX4 hb5 (Box.lt hX4)
          have hB5 := Below.trans hB4 (Below.mono hb5 (Below.size hB4))
          have hV5 := LogVars.below hV4 hb5
          have hbl5 := Nat.lt_of_lt_of_le hbl4 (Below.size hb5)
          have hS5 : wt5.cell? ⟨b, off, none⟩ = some (.string a0) ∧ wt5.cell? ⟨b, off + 1, none⟩ = some (.string a1) ∧ wt5.cell? ⟨b, off + 2, none⟩ = some (.string a2) ∧ wt5.cell? ⟨b, off + 3, none⟩ = some (.string a3) ∧ wt5.cell? ⟨b, off + 4, none⟩ = some (.string a4) := ⟨(Below.cell hb5 hbl4).trans hS4.1, (Below.cell hb5 hbl4).trans hS4.2.1, (Below.cell hb5 hbl4).trans hS4.2.2.1, (Below.cell hb5 hbl4).trans hS4.2.2.2.1, (Below.cell hb5 hbl4).trans hS4.2.2.2.2⟩
          have hY5 := Box.below hY4 hb5 (Box.lt hY4)
          have hP5 := Below.trans hP4 (Below.mono hb5 (Below.size hP4))
          rcases hh5 with ⟨n3, n4, -, rfl⟩ | ⟨hm4, rfl⟩
          rotate_left
          · have HPN := Lib.hid (NO4.out hm4)
            go_wp2
            exact ⟨rfl, hB5, Or.inr ⟨HPN.out, rfl⟩⟩
          go_wp2_with fail
          refine hK.out _ _ hS5 (fun hHeld5 => ?_)
          clear hK K
          try simp only [Act.put]
          refine wpAnyH_take (i := 23) (v := ?_) rfl (by kernel_rfl) (by kernel_rfl) (by kernel_rfl) (fun _ _ _ h => h) (Or.inl ⟨by rfl, ?_⟩) (by assumption) ?_
          rotate_left
          · (intro w' hSw; (try dsimp only at hSw); obtain ⟨hc0, hc1, hc2, hc3, hc4⟩ := hSw; go_simp; try with_reducible rfl)
          try simp only [Act.put]
          refine wpAnyH_take (i := 24) (v := ?_) rfl (by kernel_rfl) (by kernel_rfl) (by kernel_rfl) (fun _ _ _ h => h) (Or.inl ⟨by rfl, ?_⟩) (by assumption) ?_
          rotate_left
          · (intro w' hSw; (try dsimp only at hSw); obtain ⟨hc0, hc1, hc2, hc3, hc4⟩ := hSw; go_simp; try with_reducible rfl)
          try simp only [Act.put]
          refine wpAnyH_ready (rs := [25]) (by kernel_rfl) (by simp) ?_
          refine AllReadyH.cons rfl (fun K hK => ?_) (AllReadyH.nil)
          go_simp
          go_at_call 114
          refine (recOf_any n0 n1 n3 n4 n2 a1 (textOf a3) _).mono ?_
          rintro e wt6 ⟨rfl, hb6⟩
          have hX6 := Box.below hX5 hb6 (Box.lt hX5)
          have hB6 := Below.trans hB5 (Below.mono hb6 (Below.size hB5))
          have hV6 := LogVars.below hV5 hb6
          have hbl6 := Nat.lt_of_lt_of_le hbl5 (Below.size hb6)
          have hS6 : wt6.cell? ⟨b, off, none⟩ = some (.string a0) ∧ wt6.cell? ⟨b, off + 1, none⟩ = some (.string a1) ∧ wt6.cell? ⟨b, off + 2, none⟩ = some (.string a2) ∧ wt6.cell? ⟨b, off + 3, none⟩ = some (.string a3) ∧ wt6.cell? ⟨b, off + 4, none⟩ = some (.string a4) := ⟨(Below.cell hb6 hbl5).trans hS5.1, (Below.cell hb6 hbl5).trans hS5.2.1, (Below.cell hb6 hbl5).trans hS5.2.2.1, (Below.cell hb6 hbl5).trans hS5.2.2.2.1, (Below.cell hb6 hbl5).trans hS5.2.2.2.2⟩
          have hY6 := Box.below hY5 hb6 (Box.lt hY5)
          have hP6 := Below.trans hP5 (Below.mono hb6 (Below.size hP5))
          go_wp2_with fail
          refine hK.out _ _ hS6 (fun hHeld6 => ?_)
          clear hK K
          try simp only [Act.put]
          refine wpAnyH_ready (rs := [27]) (by kernel_rfl) (by simp) ?_
          refine AllReadyH.cons rfl (fun K hK => ?_) (AllReadyH.nil)
          have k0 := Box.cell hY6 0 rfl
          have k1 := Box.cell hY6 1 rfl
          have k2 := Box.cell hY6 2 rfl
          have k3 := Box.cell hY6 3 rfl
          have k4 := Box.cell hY6 4 rfl
          have k5 := Box.cell hY6 5 rfl
          have k6 := Box.cell hY6 6 rfl
          have q0 := Box.open_ hY6 0
          have q1 := Box.open_ hY6 1
          have q2 := Box.open_ hY6 2
          have q3 := Box.open_ hY6 3
          have q4 := Box.open_ hY6 4
          have q5 := Box.open_ hY6 5
          have q6 := Box.open_ hY6 6
          have hPF : Below wt2.heap.size _ (((((((wt6.setCell ⟨wt2.heap.size, 0, none⟩ (.int .i64 n0)).setCell ⟨wt2.heap.size, 1, none⟩ (.int .i64 n1)).setCell ⟨wt2.heap.size, 2, none⟩ (.int .i64 3)).setCell ⟨wt2.heap.size, 3, none⟩ (.string a1)).setCell ⟨wt2.heap.size, 4, none⟩ (.string ⟨#[]⟩)).setCell ⟨wt2.heap.size, 5, none⟩ (.int .i64 n2)).setCell ⟨wt2.heap.size, 6, none⟩ (.string (textOf a3))) := (((((((hP6.setCell (p := ⟨wt2.heap.size, 0, none⟩) (Nat.le_refl _) (.int .i64 n0)).setCell (p := ⟨wt2.heap.size, 1, none⟩) (Nat.le_refl _) (.int .i64 n1)).setCell (p := ⟨wt2.heap.size, 2, none⟩) (Nat.le_refl _) (.int .i64 3)).setCell (p := ⟨wt2.heap.size, 3, none⟩) (Nat.le_refl _) (.string a1)).setCell (p := ⟨wt2.heap.size, 4, none⟩) (Nat.le_refl _) (.string ⟨#[]⟩)).setCell (p := ⟨wt2.heap.size, 5, none⟩) (Nat.le_refl _) (.int .i64 n2)).setCell (p := ⟨wt2.heap.size, 6, none⟩) (Nat.le_refl _) (.string (textOf a3)))
          have hYF : Box (((((((wt6.setCell ⟨wt2.heap.size, 0, none⟩ (.int .i64 n0)).setCell ⟨wt2.heap.size, 1, none⟩ (.int .i64 n1)).setCell ⟨wt2.heap.size, 2, none⟩ (.int .i64 3)).setCell ⟨wt2.heap.size, 3, none⟩ (.string a1)).setCell ⟨wt2.heap.size, 4, none⟩ (.string ⟨#[]⟩)).setCell ⟨wt2.heap.size, 5, none⟩ (.int .i64 n2)).setCell ⟨wt2.heap.size, 6, none⟩ (.string (textOf a3))) wt2.heap.size [.int .i64 n0, .int .i64 n1, .int .i64 3, .string a1, .string ⟨#[]⟩, .int .i64 n2, .string (textOf a3)] := (((((((hY6.set 0 (.int .i64 n0)).set 1 (.int .i64 n1)).set 2 (.int .i64 3)).set 3 (.string a1)).set 4 (.string ⟨#[]⟩)).set 5 (.int .i64 n2)).set 6 (.string (textOf a3)))
          have hXF := Box.below hX2 hPF (Box.lt hX2)
          have hBF := Below.trans hB2 (Below.mono hPF (Below.size hB2))
          have hVF := LogVars.below hV2 hPF
          have hSF : (((((((wt6.setCell ⟨wt2.heap.size, 0, none⟩ (.int .i64 n0)).setCell ⟨wt2.heap.size, 1, none⟩ (.int .i64 n1)).setCell ⟨wt2.heap.size, 2, none⟩ (.int .i64 3)).setCell ⟨wt2.heap.size, 3, none⟩ (.string a1)).setCell ⟨wt2.heap.size, 4, none⟩ (.string ⟨#[]⟩)).setCell ⟨wt2.heap.size, 5, none⟩ (.int .i64 n2)).setCell ⟨wt2.heap.size, 6, none⟩ (.string (textOf a3))).cell? ⟨b, off, none⟩ = some (.string a0) ∧ (((((((wt6.setCell ⟨wt2.heap.size, 0, none⟩ (.int .i64 n0)).setCell ⟨wt2.heap.size, 1, none⟩ (.int .i64 n1)).setCell ⟨wt2.heap.size, 2, none⟩ (.int .i64 3)).setCell ⟨wt2.heap.size, 3, none⟩ (.string a1)).setCell ⟨wt2.heap.size, 4, none⟩ (.string ⟨#[]⟩)).setCell ⟨wt2.heap.size, 5, none⟩ (.int .i64 n2)).setCell ⟨wt2.heap.size, 6, none⟩ (.string (textOf a3))).cell? ⟨b, off + 1, none⟩ = some (.string a1) ∧ (((((((wt6.setCell ⟨wt2.heap.size, 0, none⟩ (.int .i64 n0)).setCell ⟨wt2.heap.size, 1, none⟩ (.int .i64 n1)).setCell ⟨wt2.heap.size, 2, none⟩ (.int .i64 3)).setCell ⟨wt2.heap.size, 3, none⟩ (.string a1)).setCell ⟨wt2.heap.size, 4, none⟩ (.string ⟨#[]⟩)).setCell ⟨wt2.heap.size, 5, none⟩ (.int .i64 n2)).setCell ⟨wt2.heap.size, 6, none⟩ (.string (textOf a3))).cell? ⟨b, off + 2, none⟩ = some (.string a2) ∧ (((((((wt6.setCell ⟨wt2.heap.size, 0, none⟩ (.int .i64 n0)).setCell ⟨wt2.heap.size, 1, none⟩ (.int .i64 n1)).setCell ⟨wt2.heap.size, 2, none⟩ (.int .i64 3)).setCell ⟨wt2.heap.size, 3, none⟩ (.string a1)).setCell ⟨wt2.heap.size, 4, none⟩ (.string ⟨#[]⟩)).setCell ⟨wt2.heap.size, 5, none⟩ (.int .i64 n2)).setCell ⟨wt2.heap.size, 6, none⟩ (.string (textOf a3))).cell? ⟨b, off + 3, none⟩ = some (.string a3) ∧ (((((((wt6.setCell ⟨wt2.heap.size, 0, none⟩ (.int .i64 n0)).setCell ⟨wt2.heap.size, 1, none⟩ (.int .i64 n1)).setCell ⟨wt2.heap.size, 2, none⟩ (.int .i64 3)).setCell ⟨wt2.heap.size, 3, none⟩ (.string a1)).setCell ⟨wt2.heap.size, 4, none⟩ (.string ⟨#[]⟩)).setCell ⟨wt2.heap.size, 5, none⟩ (.int .i64 n2)).setCell ⟨wt2.heap.size, 6, none⟩ (.string (textOf a3))).cell? ⟨b, off + 4, none⟩ = some (.string a4) := ⟨(Below.cell hPF hbl2).trans hS2.1, (Below.cell hPF hbl2).trans hS2.2.1, (Below.cell hPF hbl2).trans hS2.2.2.1, (Below.cell hPF hbl2).trans hS2.2.2.2.1, (Below.cell hPF hbl2).trans hS2.2.2.2.2⟩
          go_simp
          refine hK.out _ _ hSF (fun hHeld7 => ?_)
          clear hK K
          try simp only [Act.put]
          try (change wpAnyH _ _ _ _ _ _ _ _ (((((((wt6.setCell ⟨wt2.heap.size, 0, none⟩ (.int .i64 n0)).setCell ⟨wt2.heap.size, 1, none⟩ (.int .i64 n1)).setCell ⟨wt2.heap.size, 2, none⟩ (.int .i64 3)).setCell ⟨wt2.heap.size, 3, none⟩ (.string a1)).setCell ⟨wt2.heap.size, 4, none⟩ (.string ⟨#[]⟩)).setCell ⟨wt2.heap.size, 5, none⟩ (.int .i64 n2)).setCell ⟨wt2.heap.size, 6, none⟩ (.string (textOf a3))))
          clear hPF hSF
          generalize (((((((wt6.setCell ⟨wt2.heap.size, 0, none⟩ (.int .i64 n0)).setCell ⟨wt2.heap.size, 1, none⟩ (.int .i64 n1)).setCell ⟨wt2.heap.size, 2, none⟩ (.int .i64 3)).setCell ⟨wt2.heap.size, 3, none⟩ (.string a1)).setCell ⟨wt2.heap.size, 4, none⟩ (.string ⟨#[]⟩)).setCell ⟨wt2.heap.size, 5, none⟩ (.int .i64 n2)).setCell ⟨wt2.heap.size, 6, none⟩ (.string (textOf a3))) = wF at hYF hXF hBF hVF ⊢
          refine wpAnyH_done (by kernel_rfl) ?_ _
          go_simp
          have YF := Lib.hid hYF
          have XF := Lib.hid hXF
          have BF := Lib.hid hBF
          have VF := Lib.hid hVF
          clear hYF hXF hBF hVF
          have HS2 := Lib.hid (show ∀ r, LSpells t r → r = ⟨n0, n1, 3, a1, ⟨#[]⟩, n2, textOf a3⟩ from fun r h => by
            obtain ⟨m, q, k, hr, h1, h2, h3, hm, hk, _, _⟩ := HAT.out r h
            obtain ⟨e0, e1⟩ := HM0.out m q ⟨h1, h2, hm⟩
            have e2 : (k : Int) = n2 := by
              have := HM2.out
              rw [hk, atoi_digs k (by omega)] at this
              injection this
            rw [hr, e0, e1, e2])
          have htx := textOf_size a3
          obtain ⟨x, HX⟩ : ∃ x, Hid (textOf a3 = x) := ⟨_, Lib.hid rfl⟩
          rw [HX.out] at htx HS2 YF ⊢
          have hxs : x.size ≤ maxLen := by unfold maxLen; omega
          obtain ⟨R, HR⟩ : ∃ R, Hid (logText ⟨n0, n1, 3, a1, ⟨#[]⟩, n2, x⟩ = R) := ⟨_, Lib.hid rfl⟩
          have z0 := YF.out.cell 0 rfl
          have z1 := YF.out.cell 1 rfl
          have z2 := YF.out.cell 2 rfl
          have z3 := YF.out.cell 3 rfl
          have z4 := YF.out.cell 4 rfl
          have z5 := YF.out.cell 5 rfl
          have z6 := YF.out.cell 6 rfl
          go_wp2_with fail
          refine (implLog_is ⟨n0, n1, 3, a1, ⟨#[]⟩, n2, x⟩ R _ (by unfold maxLen; simp only; omega) hxs VF.out.libs.pow VF.out.tab HR.out).mono ?_
          rintro e w5 ⟨rfl, hb⟩
          have X5 := Lib.hid (XF.out.below hb XF.out.lt)
          have Y5 := Lib.hid (YF.out.below hb YF.out.lt)
          have B5 := Lib.hid (BF.out.trans (hb.mono BF.out.size))
          clear hb XF YF BF VF z0 z1 z2 z3 z4 z5 z6
          by_cases hR : R = t
          case neg =>
            have HN := Lib.hid (show ∀ r, ¬ LSpells t r from fun r h => hR (by rw [← HR.out, ← HS2.out r h]; exact h.2))
            have hq := ne_text hR
            clear hR
            go_wp2
            exact ⟨rfl, B5.out, Or.inr ⟨HN.out, rfl⟩⟩
          case pos =>
            have HY := Lib.hid (lspells_of HO.out (HR.out.trans hR))
            subst hR
            have hq : (R.toList == R.toList) = true := by simp
            have z0 := Y5.out.cell 0 rfl
            have z1 := Y5.out.cell 1 rfl
            have z2 := Y5.out.cell 2 rfl
            have z3 := Y5.out.cell 3 rfl
            have z4 := Y5.out.cell 4 rfl
            have z5 := Y5.out.cell 5 rfl
            have z6 := Y5.out.cell 6 rfl
            have c0 := X5.out.cell 0 rfl
            have c1 := X5.out.cell 1 rfl
            have c2 := X5.out.cell 2 rfl
            have c3 := X5.out.cell 3 rfl
            have c4 := X5.out.cell 4 rfl
            have c5 := X5.out.cell 5 rfl
            have c6 := X5.out.cell 6 rfl
            have f0 := X5.out.open_ 0
            have f1 := X5.out.open_ 1
            have f2 := X5.out.open_ 2
            have f3 := X5.out.open_ 3
            have f4 := X5.out.open_ 4
            have f5 := X5.out.open_ 5
            have f6 := X5.out.open_ 6
            have XE := Lib.hid (show Box _ w.heap.size [.int .i64 n0, .int .i64 n1, .int .i64 3, .string a1, .string ⟨#[]⟩, .int .i64 n2, .string x] from (((((((X5.out.set 0 (.int .i64 n0)).set 1 (.int .i64 n1)).set 2 (.int .i64 3)).set 3 (.string a1)).set 4 (.string ⟨#[]⟩)).set 5 (.int .i64 n2)).set 6 (.string x)))
            have BE := Lib.hid (((((((B5.out.setCell (p := ⟨w.heap.size, 0, none⟩) (Nat.le_refl _) (.int .i64 n0)).setCell (p := ⟨w.heap.size, 1, none⟩) (Nat.le_refl _) (.int .i64 n1)).setCell (p := ⟨w.heap.size, 2, none⟩) (Nat.le_refl _) (.int .i64 3)).setCell (p := ⟨w.heap.size, 3, none⟩) (Nat.le_refl _) (.string a1)).setCell (p := ⟨w.heap.size, 4, none⟩) (Nat.le_refl _) (.string ⟨#[]⟩)).setCell (p := ⟨w.heap.size, 5, none⟩) (Nat.le_refl _) (.int .i64 n2)).setCell (p := ⟨w.heap.size, 6, none⟩) (Nat.le_refl _) (.string x))
            go_wp2
            have y0 := XE.out.cell 0 rfl
            have y1 := XE.out.cell 1 rfl
            have y2 := XE.out.cell 2 rfl
            have y3 := XE.out.cell 3 rfl
            have y4 := XE.out.cell 4 rfl
            have y5 := XE.out.cell 5 rfl
            have y6 := XE.out.cell 6 rfl
            refine bodyPost_ret (v := rv ⟨n0, n1, 3, a1, ⟨#[]⟩, n2, x⟩) ?_ rfl ⟨BE.out, Or.inl ⟨_, HY.out, rfl⟩⟩
            simp [results, Tryz.results41, go_sem, y0, y1, y2, y3, y4, y5, y6]
      · have hway : True := trivial
        have hnw2 := Below.new (w := wt1) (.cells #[.int .i64 0, .int .i64 0, .int .i64 0, .string ⟨#[]⟩, .string ⟨#[]⟩, .int .i64 0, .string ⟨#[]⟩] 26)
        have hX2 := Box.below hX1 hnw2 (Box.lt hX1)
        have hB2 := Below.trans hB1 (Below.mono hnw2 (Below.size hB1))
        have hV2 := LogVars.below hV1 hnw2
        have hbl2 := Nat.lt_of_lt_of_le hbl1 (Below.size hnw2)
        have hS2 : (wt1.alloc (.cells #[.int .i64 0, .int .i64 0, .int .i64 0, .string ⟨#[]⟩, .string ⟨#[]⟩, .int .i64 0, .string ⟨#[]⟩] 26)).cell? ⟨b, off, none⟩ = some (.string a0) ∧ (wt1.alloc (.cells #[.int .i64 0, .int .i64 0, .int .i64 0, .string ⟨#[]⟩, .string ⟨#[]⟩, .int .i64 0, .string ⟨#[]⟩] 26)).cell? ⟨b, off + 1, none⟩ = some (.string a1) ∧ (wt1.alloc (.cells #[.int .i64 0, .int .i64 0, .int .i64 0, .string ⟨#[]⟩, .string ⟨#[]⟩, .int .i64 0, .string ⟨#[]⟩] 26)).cell? ⟨b, off + 2, none⟩ = some (.string a2) ∧ (wt1.alloc (.cells #[.int .i64 0, .int .i64 0, .int .i64 0, .string ⟨#[]⟩, .string ⟨#[]⟩, .int .i64 0, .string ⟨#[]⟩] 26)).cell? ⟨b, off + 3, none⟩ = some (.string a3) ∧ (wt1.alloc (.cells #[.int .i64 0, .int .i64 0, .int .i64 0, .string ⟨#[]⟩, .string ⟨#[]⟩, .int .i64 0, .string ⟨#[]⟩] 26)).cell? ⟨b, off + 4, none⟩ = some (.string a4) := ⟨(Below.cell hnw2 hbl1).trans hS1.1, (Below.cell hnw2 hbl1).trans hS1.2.1, (Below.cell hnw2 hbl1).trans hS1.2.2.1, (Below.cell hnw2 hbl1).trans hS1.2.2.2.1, (Below.cell hnw2 hbl1).trans hS1.2.2.2.2⟩
        have hY2 := box_new wt1 #[.int .i64 0, .int .i64 0, .int .i64 0, .string ⟨#[]⟩, .string ⟨#[]⟩, .int .i64 0, .string ⟨#[]⟩] 26
        have hP2 : Below wt1.heap.size wt1 (wt1.alloc (.cells #[.int .i64 0, .int .i64 0, .int .i64 0, .string ⟨#[]⟩, .string ⟨#[]⟩, .int .i64 0, .string ⟨#[]⟩] 26)) := hnw2
        go_simp
        refine hK.out _ _ hS2 (fun hHeld2 => ?_)
        clear hK K
        try simp only [Act.put]
        clear hnw2
        try (change wpAnyH _ _ _ _ _ _ _ _ (wt1.alloc (.cells #[.int .i64 0, .int .i64 0, .int .i64 0, .string ⟨#[]⟩, .string ⟨#[]⟩, .int .i64 0, .string ⟨#[]⟩] 26)))
        generalize (wt1.alloc (.cells #[.int .i64 0, .int .i64 0, .int .i64 0, .string ⟨#[]⟩, .string ⟨#[]⟩, .int .i64 0, .string ⟨#[]⟩] 26)) = wa2 at hX2 hB2 hV2 hbl2 hS2 hY2 hP2 ⊢
        refine wpAnyH_ready (rs := [12]) (by kernel_rfl) (by simp) ?_
        refine AllReadyH.cons rfl (fun K hK => ?_) (AllReadyH.nil)
        go_simp
        go_at_call 116
        refine (numLog_any a2 _ (by omega) hV2.libs).mono ?_
        rintro e wt3 ⟨hb3, hh3⟩
        have hX3 := Box.below hX2 hb3 (Box.lt hX2)
        have hB3 := Below.trans hB2 (Below.mono hb3 (Below.size hB2))
        have hV3 := LogVars.below hV2 hb3
        have hbl3 := Nat.lt_of_lt_of_le hbl2 (Below.size hb3)
        have hS3 : wt3.cell? ⟨b, off, none⟩ = some (.string a0) ∧ wt3.cell? ⟨b, off + 1, none⟩ = some (.string a1) ∧ wt3.cell? ⟨b, off + 2, none⟩ = some (.string a2) ∧ wt3.cell? ⟨b, off + 3, none⟩ = some (.string a3) ∧ wt3.cell? ⟨b, off + 4, none⟩ = some (.string a4) := ⟨(Below.cell hb3 hbl2).trans hS2.1, (Below.cell hb3 hbl2).trans hS2.2.1, (Below.cell hb3 hbl2).trans hS2.2.2.1, (Below.cell hb3 hbl2).trans hS2.2.2.2.1, (Below.cell hb3 hbl2).trans hS2.2.2.2.2⟩
        have hY3 := Box.below hY2 hb3 (Box.lt hY2)
        have hP3 := Below.trans hP2 (Below.mono hb3 (Below.size hP2))
        rcases hh3 with ⟨n2, hm2, rfl⟩ | ⟨hm2, rfl⟩
        rotate_left
        · have HPN := Lib.hid (NO2.out hm2)
          go_wp2
          exact ⟨rfl, hB3, Or.inr ⟨HPN.out, rfl⟩⟩
        have HM2 := Lib.hid hm2
        clear hm2
        go_wp2_with fail
        refine hK.out _ _ hS3 (fun hHeld3 => ?_)
        clear hK K
        try simp only [Act.put]
        refine wpAnyH_take (i := 13) (v := ?_) rfl (by kernel_rfl) (by kernel_rfl) (by kernel_rfl) (fun _ _ _ h => h) (Or.inl ⟨by rfl, ?_⟩) (by assumption) ?_
        rotate_left
        · (intro w' hSw; (try dsimp only at hSw); obtain ⟨hc0, hc1, hc2, hc3, hc4⟩ := hSw; go_simp; try with_reducible rfl)
        try simp only [Act.put]
        refine wpAnyH_ready (rs := [17]) (by kernel_rfl) (by simp) ?_
        refine AllReadyH.cons rfl (fun K hK => ?_) (AllReadyH.nil)
        go_simp
        go_at_call 117
        refine (bytesOf_any a3 _ (by omega) hV3.tab).mono ?_
        rintro e wt4 ⟨hb4, hh4⟩
        have hX4 := Box.below hX3 hb4 (Box.lt hX3)
        have hB4 := Below.trans hB3 (Below.mono hb4 (Below.size hB3))
        have hV4 := LogVars.below hV3 hb4
        have hbl4 := Nat.lt_of_lt_of_le hbl3 (Below.size hb4)
        have hS4 : wt4.cell? ⟨b, off, none⟩ = some (.string a0) ∧ wt4.cell? ⟨b, off + 1, none⟩ = some (.string a1) ∧ wt4.cell? ⟨b, off + 2, none⟩ = some (.string a2) ∧ wt4.cell? ⟨b, off + 3, none⟩ = some (.string a3) ∧ wt4.cell? ⟨b, off + 4, none⟩ = some (.string a4) := ⟨(Below.cell hb4 hbl3).trans hS3.1, (Below.cell hb4 hbl3).trans hS3.2.1, (Below.cell hb4 hbl3).trans hS3.2.2.1, (Below.cell hb4 hbl3).trans hS3.2.2.2.1, (Below.cell hb4 hbl3).trans hS3.2.2.2.2⟩
        have hY4 := Box.below hY3 hb4 (Box.lt hY3)
        have hP4 := Below.trans hP3 (Below.mono hb4 (Below.size hP3))
        rcases hh4 with rfl | ⟨hm3, hm3u, rfl⟩
        rotate_left
        · have HPN := Lib.hid (NO3.out hm3 hm3u)
          go_wp2
          exact ⟨rfl, hB4, Or.inr ⟨HPN.out, rfl⟩⟩
        go_wp2_with fail
        refine hK.out _ _ hS4 (fun hHeld4 => ?_)
        clear hK K
        try simp only [Act.put]
        refine wpAnyH_take (i := 18) (v := ?_) rfl (by kernel_rfl) (by kernel_rfl) (by kernel_rfl) (fun _ _ _ h => h) (Or.inl ⟨by rfl, ?_⟩) (by assumption) ?_
        rotate_left
        · (intro w' hSw; (try dsimp only at hSw); obtain ⟨hc0, hc1, hc2, hc3, hc4⟩ := hSw; go_simp; try with_reducible rfl)
        try simp only [Act.put]
        refine wpAnyH_ready (rs := [22]) (by kernel_rfl) (by simp) ?_
        refine AllReadyH.cons rfl (fun K hK => ?_) (AllReadyH.nil)
        go_simp
        go_at_call 115
        refine (markOf_any a4 _ (by omega) hV4.libs).mono ?_
        rintro e wt5 ⟨hb5, hh5⟩
        have hX5 := Box.below hX4 hb5 (Box.lt hX4)
        have hB5 := Below.trans hB4 (Below.mono hb5 (Below.size hB4))
        have hV5 := LogVars.below hV4 hb5
        have hbl5 := Nat.lt_of_lt_of_le hbl4 (Below.size hb5)
        have hS5 : wt5.cell? ⟨b, off, none⟩ = some (.string a0) ∧ wt5.cell? ⟨b, off + 1, none⟩ = some (.string a1) ∧ wt5.cell? ⟨b, off + 2, none⟩ = some (.string a2) ∧ wt5.cell? ⟨b, off + 3, none⟩ = some (.string a3) ∧ wt5.cell? ⟨b, off + 4, none⟩ = some (.string a4) := ⟨(Below.cell hb5 hbl4).trans hS4.1, (Below.cell hb5 hbl4).trans hS4.2.1, (Below.cell hb5 hbl4).trans hS4.2.2.1, (Below.cell hb5 hbl4).trans hS4.2.2.2.1, (Below.cell hb5 hbl4).trans hS4.2.2.2.2⟩
        have hY5 := Box.below hY4 hb5 (Box.lt hY4)
        have hP5 := Below.trans hP4 (Below.mono hb5 (Below.size hP4))
        rcases hh5 with ⟨n3, n4, -, rfl⟩ | ⟨hm4, rfl⟩
        rotate_left
        · have HPN := Lib.hid (NO4.out hm4)
          go_wp2
          exact ⟨rfl, hB5, Or.inr ⟨HPN.out, rfl⟩⟩
        go_wp2_with fail
        refine hK.out _ _ hS5 (fun hHeld5 => ?_)
        clear hK K
        try simp only [Act.put]
        refine wpAnyH_take (i := 23) (v := ?_) rfl (by kernel_rfl) (by kernel_rfl) (by kernel_rfl) (fun _ _ _ h => h) (Or.inl ⟨by rfl, ?_⟩) (by assumption) ?_
        rotate_left
        · (intro w' hSw; (try dsimp only at hSw); obtain ⟨hc0, hc1, hc2, hc3, hc4⟩ := hSw; go_simp; try with_reducible rfl)
        try simp only [Act.put]
        refine wpAnyH_take (i := 24) (v := ?_) rfl (by kernel_rfl) (by kernel_rfl) (by kernel_rfl) (fun _ _ _ h => h) (Or.inl ⟨by rfl, ?_⟩) (by assumption) ?_
        rotate_left
        · (intro w' hSw; (try dsimp only at hSw); obtain ⟨hc0, hc1, hc2, hc3, hc4⟩ := hSw; go_simp; try with_reducible rfl)
        try simp only [Act.put]
        refine wpAnyH_ready (rs := [25]) (by kernel_rfl) (by simp) ?_
        refine AllReadyH.cons rfl (fun K hK => ?_) (AllReadyH.nil)
        go_simp
        go_at_call 114
        refine (recOf_any n0 n1 n3 n4 n2 a1 (textOf a3) _).mono ?_
        rintro e wt6 ⟨rfl, hb6⟩
        have hX6 := Box.below hX5 hb6 (Box.lt hX5)
        have hB6 := Below.trans hB5 (Below.mono hb6 (Below.size hB5))
        have hV6 := LogVars.below hV5 hb6
        have hbl6 := Nat.lt_of_lt_of_le hbl5 (Below.size hb6)
        have hS6 : wt6.cell? ⟨b, off, none⟩ = some (.string a0) ∧ wt6.cell? ⟨b, off + 1, none⟩ = some (.string a1) ∧ wt6.cell? ⟨b, off + 2, none⟩ = some (.string a2) ∧ wt6.cell? ⟨b, off + 3, none⟩ = some (.string a3) ∧ wt6.cell? ⟨b, off + 4, none⟩ = some (.string a4) := ⟨(Below.cell hb6 hbl5).trans hS5.1, (Below.cell hb6 hbl5).trans hS5.2.1, (Below.cell hb6 hbl5).trans hS5.2.2.1, (Below.cell hb6 hbl5).trans hS5.2.2.2.1, (Below.cell hb6 hbl5).trans hS5.2.2.2.2⟩
        have hY6 := Box.below hY5 hb6 (Box.lt hY5)
        have hP6 := Below.trans hP5 (Below.mono hb6 (Below.size hP5))
        go_wp2_with fail
        refine hK.out _ _ hS6 (fun hHeld6 => ?_)
        clear hK K
        try simp only [Act.put]
        refine wpAnyH_ready (rs := [27]) (by kernel_rfl) (by simp) ?_
        refine AllReadyH.cons rfl (fun K hK => ?_) (AllReadyH.nil)
        have k0 := Box.cell hY6 0 rfl
        have k1 := Box.cell hY6 1 rfl
        have k2 := Box.cell hY6 2 rfl
        have k3 := Box.cell hY6 3 rfl
        have k4 := Box.cell hY6 4 rfl
        have k5 := Box.cell hY6 5 rfl
        have k6 := Box.cell hY6 6 rfl
        have q0 := Box.open_ hY6 0
        have q1 := Box.open_ hY6 1
        have q2 := Box.open_ hY6 2
        have q3 := Box.open_ hY6 3
        have q4 := Box.open_ hY6 4
        have q5 := Box.open_ hY6 5
        have q6 := Box.open_ hY6 6
        have hPF : Below wt1.heap.size _ (((((((wt6.setCell ⟨wt1.heap.size, 0, none⟩ (.int .i64 n0)).setCell ⟨wt1.heap.size, 1, none⟩ (.int .i64 n1)).setCell ⟨wt1.heap.size, 2, none⟩ (.int .i64 3)).setCell ⟨wt1.heap.size, 3, none⟩ (.string a1)).setCell ⟨wt1.heap.size, 4, none⟩ (.string ⟨#[]⟩)).setCell ⟨wt1.heap.size, 5, none⟩ (.int .i64 n2)).setCell ⟨wt1.heap.size, 6, none⟩ (.string (textOf a3))) := (((((((hP6.setCell (p := ⟨wt1.heap.size, 0, none⟩) (Nat.le_refl _) (.int .i64 n0)).setCell (p := ⟨wt1.heap.size, 1, none⟩) (Nat.le_refl _) (.int .i64 n1)).setCell (p := ⟨wt1.heap.size, 2, none⟩) (Nat.le_refl _) (.int .i64 3)).setCell (p := ⟨wt1.heap.size, 3, none⟩) (Nat.le_refl _) (.string a1)).setCell (p := ⟨wt1.heap.size, 4, none⟩) (Nat.le_refl _) (.string ⟨#[]⟩)).setCell (p := ⟨wt1.heap.size, 5, none⟩) (Nat.le_refl _) (.int .i64 n2)).setCell (p := ⟨wt1.heap.size, 6, none⟩) (Nat.le_refl _) (.string (textOf a3)))
        have hYF : Box (((((((wt6.setCell ⟨wt1.heap.size, 0, none⟩ (.int .i64 n0)).setCell ⟨wt1.heap.size, 1, none⟩ (.int .i64 n1)).setCell ⟨wt1.heap.size, 2, none⟩ (.int .i64 3)).setCell ⟨wt1.heap.size, 3, none⟩ (.string a1)).setCell ⟨wt1.heap.size, 4, none⟩ (.string ⟨#[]⟩)).setCell ⟨wt1.heap.size, 5, none⟩ (.int .i64 n2)).setCell ⟨wt1.heap.size, 6, none⟩ (.string (textOf a3))) wt1.heap.size [.int .i64 n0, .int .i64 n1, .int .i64 3, .string a1, .string ⟨#[]⟩, .int .i64 n2, .string (textOf a3)] := (((((((hY6.set 0 (.int .i64 n0)).set 1 (.int .i64 n1)).set 2 (.int .i64 3)).set 3 (.string a1)).set 4 (.string ⟨#[]⟩)).set 5 (.int .i64 n2)).set 6 (.string (textOf a3)))
        have hXF := Box.below hX1 hPF (Box.lt hX1)
        have hBF := Below.trans hB1 (Below.mono hPF (Below.size hB1))
        have hVF := LogVars.below hV1 hPF
        have hSF : (((((((wt6.setCell ⟨wt1.heap.size, 0, none⟩ (.int .i64 n0)).setCell ⟨wt1.heap.size, 1, none⟩ (.int .i64 n1)).setCell ⟨wt1.heap.size, 2, none⟩ (.int .i64 3)).setCell ⟨wt1.heap.size, 3, none⟩ (.string a1)).setCell ⟨wt1.heap.size, 4, none⟩ (.string ⟨#[]⟩)).setCell ⟨wt1.heap.size, 5, none⟩ (.int .i64 n2)).setCell ⟨wt1.heap.size, 6, none⟩ (.string (textOf a3))).cell? ⟨b, off, none⟩ = some (.string a0) ∧ (((((((wt6.setCell ⟨wt1.heap.size, 0, none⟩ (.int .i64 n0)).setCell ⟨wt1.heap.size, 1, none⟩ (.int .i64 n1)).setCell ⟨wt1.heap.size, 2, none⟩ (.int .i64 3)).setCell ⟨wt1.heap.size, 3, none⟩ (.string a1)).setCell ⟨wt1.heap.size, 4, none⟩ (.string ⟨#[]⟩)).setCell ⟨wt1.heap.size, 5, none⟩ (.int .i64 n2)).setCell ⟨wt1.heap.size, 6, none⟩ (.string (textOf a3))).cell? ⟨b, off + 1, none⟩ = some (.string a1) ∧ (((((((wt6.setCell ⟨wt1.heap.size, 0, none⟩ (.int .i64 n0)).setCell ⟨wt1.heap.size, 1, none⟩ (.int .i64 n1)).setCell ⟨wt1.heap.size, 2, none⟩ (.int .i64 3)).setCell ⟨wt1.heap.size, 3, none⟩ (.string a1)).setCell ⟨wt1.heap.size, 4, none⟩ (.string ⟨#[]⟩)).setCell ⟨wt1.heap.size, 5, none⟩ (.int .i64 n2)).setCell ⟨wt1.heap.size, 6, none⟩ (.string (textOf a3))).cell? ⟨b, off + 2, none⟩ = some (.string a2) ∧ (((((((wt6.setCell ⟨wt1.heap.size, 0, none⟩ (.int .i64 n0)).setCell ⟨wt1.heap.size, 1, none⟩ (.int .i64 n1)).setCell ⟨wt1.heap.size, 2, none⟩ (.int .i64 3)).setCell ⟨wt1.heap.size, 3, none⟩ (.string a1)).setCell ⟨wt1.heap.size, 4, none⟩ (.string ⟨#[]⟩)).setCell ⟨wt1.heap.size, 5, none⟩ (.int .i64 n2)).setCell ⟨wt1.heap.size, 6, none⟩ (.string (textOf a3))).cell? ⟨b, off + 3, none⟩ = some (.string a3) ∧ (((((((wt6.setCell ⟨wt1.heap.size, 0, none⟩ (.int .i64 n0)).setCell ⟨wt1.heap.size, 1, none⟩ (.int .i64 n1)).setCell ⟨wt1.heap.size, 2, none⟩ (.int .i64 3)).setCell ⟨wt1.heap.size, 3, none⟩ (.string a1)).setCell ⟨wt1.heap.size, 4, none⟩ (.string ⟨#[]⟩)).setCell ⟨wt1.heap.size, 5, none⟩ (.int .i64 n2)).setCell ⟨wt1.heap.size, 6, none⟩ (.string (textOf a3))).cell? ⟨b, off + 4, none⟩ = some (.string a4) := ⟨(Below.cell hPF hbl1).trans hS1.1, (Below.cell hPF hbl1).trans hS1.2.1, (Below.cell hPF hbl1).trans hS1.2.2.1, (Below.cell hPF hbl1).trans hS1.2.2.2.1, (Below.cell hPF hbl1).trans hS1.2.2.2.2⟩
        go_simp
        refine hK.out _ _ hSF (fun hHeld7 => ?_)
        clear hK K
        try simp only [Act.put]
        try (change wpAnyH _ _ _ _ _ _ _ _ (((((((wt6.setCell ⟨wt1.heap.size, 0, none⟩ (.int .i64 n0)).setCell ⟨wt1.heap.size, 1, none⟩ (.int .i64 n1)).setCell ⟨wt1.heap.size, 2, none⟩ (.int .i64 3)).setCell ⟨wt1.heap.size, 3, none⟩ (.string a1)).setCell ⟨wt1.heap.size, 4, none⟩ (.string ⟨#[]⟩)).setCell ⟨wt1.heap.size, 5, none⟩ (.int .i64 n2)).setCell ⟨wt1.heap.size, 6, none⟩ (.string (textOf a3))))
        clear hPF hSF
        generalize (((((((wt6.setCell ⟨wt1.heap.size, 0, none⟩ (.int .i64 n0)).setCell ⟨wt1.heap.size, 1, none⟩ (.int .i64 n1)).setCell ⟨wt1.heap.size, 2, none⟩ (.int .i64 3)).setCell ⟨wt1.heap.size, 3, none⟩ (.string a1)).setCell ⟨wt1.heap.size, 4, none⟩ (.string ⟨#[]⟩)).setCell ⟨wt1.heap.size, 5, none⟩ (.int .i64 n2)).setCell ⟨wt1.heap.size, 6, none⟩ (.string (textOf a3))) = wF at hYF hXF hBF hVF ⊢
        refine wpAnyH_done (by kernel_rfl) ?_ _
        go_simp
        have YF := Lib.hid hYF
        have XF := Lib.hid hXF
        have BF := Lib.hid hBF
        have VF := Lib.hid hVF
        clear hYF hXF hBF hVF
        have HS2 := Lib.hid (show ∀ r, LSpells t r → r = ⟨n0, n1, 3, a1, ⟨#[]⟩, n2, textOf a3⟩ from fun r h => by
          obtain ⟨m, q, k, hr, h1, h2, h3, hm, hk, _, _⟩ := HAT.out r h
          obtain ⟨e0, e1⟩ := HM0.out m q ⟨h1, h2, hm⟩
          have e2 : (k : Int) = n2 := by
            have := HM2.out
            rw [hk, atoi_digs k (by omega)] at this
            injection this
          rw [hr, e0, e1, e2])
        have htx := textOf_size a3
        obtain ⟨x, HX⟩ : ∃ x, Hid (textOf a3 = x) := ⟨_, Lib.hid rfl⟩
        rw [HX.out] at htx HS2 YF ⊢
        have hxs : x.size ≤ maxLen := by unfold maxLen; omega
        obtain ⟨R, HR⟩ : ∃ R, Hid (logText ⟨n0, n1, 3, a1, ⟨#[]⟩, n2, x⟩ = R) := ⟨_, Lib.hid rfl⟩
        have z0 := YF.out.cell 0 rfl
        have z1 := YF.out.cell 1 rfl
        have z2 := YF.out.cell 2 rfl
        have z3 := YF.out.cell 3 rfl
        have z4 := YF.out.cell 4 rfl
        have z5 := YF.out.cell 5 rfl
        have z6 := YF.out.cell 6 rfl
        go_wp2_with fail
        refine (implLog_is ⟨n0, n1, 3, a1, ⟨#[]⟩, n2, x⟩ R _ (by unfold maxLen; simp only; omega) hxs VF.out.libs.pow VF.out.tab HR.out).mono ?_
        rintro e w5 ⟨rfl, hb⟩
        have X5 := Lib.hid (XF.out.below hb XF.out.lt)
        have Y5 := Lib.hid (YF.out.below hb YF.out.lt)
        have B5 := Lib.hid (BF.out.trans (hb.mono BF.out.size))
        clear hb XF YF BF VF z0 z1 z2 z3 z4 z5 z6
        by_cases hR : R = t
        case neg =>
          have HN := Lib.hid (show ∀ r, ¬ LSpells t r from fun r h => hR (by rw [← HR.out, ← HS2.out r h]; exact h.2))
          have hq := ne_text hR
          clear hR
          go_wp2
          exact ⟨rfl, B5.out, Or.inr ⟨HN.out, rfl⟩⟩
        case pos =>
          have HY := Lib.hid (lspells_of HO.out (HR.out.trans hR))
          subst hR
          have hq : (R.toList == R.toList) = true := by simp
          have z0 := Y5.out.cell 0 rfl
          have z1 := Y5.out.cell 1 rfl
          have z2 := Y5.out.cell 2 rfl
          have z3 := Y5.out.cell 3 rfl
          have z4 := Y5.out.cell 4 rfl
          have z5 := Y5.out.cell 5 rfl
          have z6 := Y5.out.cell 6 rfl
          have c0 := X5.out.cell 0 rfl
          have c1 := X5.out.cell 1 rfl
          have c2 := X5.out.cell 2 rfl
          have c3 := X5.out.cell 3 rfl
          have c4 := X5.out.cell 4 rfl
          have c5 := X5.out.cell 5 rfl
          have c6 := X5.out.cell 6 rfl
          have f0 := X5.out.open_ 0
          have f1 := X5.out.open_ 1
          have f2 := X5.out.open_ 2
          have f3 := X5.out.open_ 3
          have f4 := X5.out.open_ 4
          have f5 := X5.out.open_ 5
          have f6 := X5.out.open_ 6
          have XE := Lib.hid (show Box _ w.heap.size [.int .i64 n0, .int .i64 n1, .int .i64 3, .string a1, .string ⟨#[]⟩, .int .i64 n2, .string x] from (((((((X5.out.set 0 (.int .i64 n0)).set 1 (.int .i64 n1)).set 2 (.int .i64 3)).set 3 (.string a1)).set 4 (.string ⟨#[]⟩)).set 5 (.int .i64 n2)).set 6 (.string x)))
          have BE := Lib.hid (((((((B5.out.setCell (p := ⟨w.heap.size, 0, none⟩) (Nat.le_refl _) (.int .i64 n0)).setCell (p := ⟨w.heap.size, 1, none⟩) (Nat.le_refl _) (.int .i64 n1)).setCell (p := ⟨w.heap.size, 2, none⟩) (Nat.le_refl _) (.int .i64 3)).setCell (p := ⟨w.heap.size, 3, none⟩) (Nat.le_refl _) (.string a1)).setCell (p := ⟨w.heap.size, 4, none⟩) (Nat.le_refl _) (.string ⟨#[]⟩)).setCell (p := ⟨w.heap.size, 5, none⟩) (Nat.le_refl _) (.int .i64 n2)).setCell (p := ⟨w.heap.size, 6, none⟩) (Nat.le_refl _) (.string x))
          go_wp2
          have y0 := XE.out.cell 0 rfl
          have y1 := XE.out.cell 1 rfl
          have y2 := XE.out.cell 2 rfl
          have y3 := XE.out.cell 3 rfl
          have y4 := XE.out.cell 4 rfl
          have y5 := XE.out.cell 5 rfl
          have y6 := XE.out.cell 6 rfl
          refine bodyPost_ret (v := rv ⟨n0, n1, 3, a1, ⟨#[]⟩, n2, x⟩) ?_ rfl ⟨BE.out, Or.inl ⟨_, HY.out, rfl⟩⟩
          simp [results, Tryz.results41, go_sem, y0, y1, y2, y3, y4, y5, y6]
    · have hway : True := trivial
      have hnw1 := Below.new (w := wd) (.cells #[.int .i64 0, .int .i64 0, .int .i64 0, .string ⟨#[]⟩, .string ⟨#[]⟩, .int .i64 0, .string ⟨#[]⟩] 26)
      have hX1 := Box.below hX0 hnw1 (Box.lt hX0)
      have hB1 := Below.trans hB0 (Below.mono hnw1 (Below.size hB0))
      have hV1 := LogVars.below hV0 hnw1
      have hbl1 := Nat.lt_of_lt_of_le hbl0 (Below.size hnw1)
      have hS1 : (wd.alloc (.cells #[.int .i64 0, .int .i64 0, .int .i64 0, .string ⟨#[]⟩, .string ⟨#[]⟩, .int .i64 0, .string ⟨#[]⟩] 26)).cell? ⟨b, off, none⟩ = some (.string a0) ∧ (wd.alloc (.cells #[.int .i64 0, .int .i64 0, .int .i64 0, .string ⟨#[]⟩, .string ⟨#[]⟩, .int .i64 0, .string ⟨#[]⟩] 26)).cell? ⟨b, off + 1, none⟩ = some (.string a1) ∧ (wd.alloc (.cells #[.int .i64 0, .int .i64 0, .int .i64 0, .string ⟨#[]⟩, .string ⟨#[]⟩, .int .i64 0, .string ⟨#[]⟩] 26)).cell? ⟨b, off + 2, none⟩ = some (.string a2) ∧ (wd.alloc (.cells #[.int .i64 0, .int .i64 0, .int .i64 0, .string ⟨#[]⟩, .string ⟨#[]⟩, .int .i64 0, .string ⟨#[]⟩] 26)).cell? ⟨b, off + 3, none⟩ = some (.string a3) ∧ (wd.alloc (.cells #[.int .i64 0, .int .i64 0, .int .i64 0, .string ⟨#[]⟩, .string ⟨#[]⟩, .int .i64 0, .string ⟨#[]⟩] 26)).cell? ⟨b, off + 4, none⟩ = some (.string a4) := ⟨(Below.cell hnw1 hbl0).trans hS0.1, (Below.cell hnw1 hbl0).trans hS0.2.1, (Below.cell hnw1 hbl0).trans hS0.2.2.1, (Below.cell hnw1 hbl0).trans hS0.2.2.2.1, (Below.cell hnw1 hbl0).trans hS0.2.2.2.2⟩
      have hY1 := box_new wd #[.int .i64 0, .int .i64 0, .int .i64 0, .string ⟨#[]⟩, .string ⟨#[]⟩, .int .i64 0, .string ⟨#[]⟩] 26
      have hP1 : Below wd.heap.size wd (wd.alloc (.cells #[.int .i64 0, .int .i64 0, .int .i64 0, .string ⟨#[]⟩, .string ⟨#[]⟩, .int .i64 0, .string ⟨#[]⟩] 26)) := hnw1
      go_simp
      refine hK.out _ _ hS1 (fun hHeld1 => ?_)
      clear hK K
      try simp only [Act.put]
      clear hnw1
      try (change wpAnyH _ _ _ _ _ _ _ _ (wd.alloc (.cells #[.int .i64 0, .int .i64 0, .int .i64 0, .string ⟨#[]⟩, .string ⟨#[]⟩, .int .i64 0, .string ⟨#[]⟩] 26)))
      generalize (wd.alloc (.cells #[.int .i64 0, .int .i64 0, .int .i64 0, .string ⟨#[]⟩, .string ⟨#[]⟩, .int .i64 0, .string ⟨#[]⟩] 26)) = wa1 at hX1 hB1 hV1 hbl1 hS1 hY1 hP1 ⊢
      refine wpAnyH_ready (rs := [3]) (by kernel_rfl) (by simp) ?_
      refine AllReadyH.cons rfl (fun K hK => ?_) (AllReadyH.nil)
      go_simp
      go_at_call 115
      refine (markOf_any a0 _ (by omega) hV1.libs).mono ?_
      rintro e wt2 ⟨hb2, hh2⟩
      have hX2 := Box.below hX1 hb2 (Box.lt hX1)
      have hB2 := Below.trans hB1 (Below.mono hb2 (Below.size hB1))
      have hV2 := LogVars.below hV1 hb2
      have hbl2 := Nat.lt_of_lt_of_le hbl1 (Below.size hb2)
      have hS2 : wt2.cell? ⟨b, off, none⟩ = some (.string a0) ∧ wt2.cell? ⟨b, off + 1, none⟩ = some (.string a1) ∧ wt2.cell? ⟨b, off + 2, none⟩ = some (.string a2) ∧ wt2.cell? ⟨b, off + 3, none⟩ = some (.string a3) ∧ wt2.cell? ⟨b, off + 4, none⟩ = some (.string a4) := ⟨(Below.cell hb2 hbl1).trans hS1.1, (Below.cell hb2 hbl1).trans hS1.2.1, (Below.cell hb2 hbl1).trans hS1.2.2.1, (Below.cell hb2 hbl1).trans hS1.2.2.2.1, (Below.cell hb2 hbl1).trans hS1.2.2.2.2⟩
      have hY2 := Box.below hY1 hb2 (Box.lt hY1)
      have hP2 := Below.trans hP1 (Below.mono hb2 (Below.size hP1))
      rcases hh2 with ⟨n0, n1, hm0, rfl⟩ | ⟨hm0, rfl⟩
      rotate_left
      · have HPN := Lib.hid (NO0.out hm0)
        go_wp2
        exact ⟨rfl, hB2, Or.inr ⟨HPN.out, rfl⟩⟩
      have HM0 := Lib.hid hm0
      clear hm0
      go_wp2_with fail
      refine hK.out _ _ hS2 (fun hHeld2 => ?_)
      clear hK K
      try simp only [Act.put]
      refine wpAnyH_take (i := 4) (v := ?_) rfl (by kernel_rfl) (by kernel_rfl) (by kernel_rfl) (fun _ _ _ h => h) (Or.inl ⟨by rfl, ?_⟩) (by assumption) ?_
      rotate_left
      · (intro w' hSw; (try dsimp only at hSw); obtain ⟨hc0, hc1, hc2, hc3, hc4⟩ := hSw; go_simp; try with_reducible rfl)
      try simp only [Act.put]
      refine wpAnyH_ready (rs := [12]) (by kernel_rfl) (by simp) ?_
      refine AllReadyH.cons rfl (fun K hK => ?_) (AllReadyH.nil)
      go_simp
      go_at_call 116
      refine (numLog_any a2 _ (by omega) hV2.libs).mono ?_
      rintro e wt3 ⟨hb3, hh3⟩
      have hX3 := Box.below hX2 hb3 (Box.lt hX2)
      have hB3 := Below.trans hB2 (Below.mono hb3 (Below.size hB2))
      have hV3 := LogVars.below hV2 hb3
      have hbl3 := Nat.lt_of_lt_of_le hbl2 (Below.size hb3)
      have hS3 : wt3.cell? ⟨b, off, none⟩ = some (.string a0) ∧ wt3.cell? ⟨b, off + 1, none⟩ = some (.string a1) ∧ wt3.cell? ⟨b, off + 2, none⟩ = some (.string a2) ∧ wt3.cell? ⟨b, off + 3, none⟩ = some (.string a3) ∧ wt3.cell? ⟨b, off + 4, none⟩ = some (.string a4) := ⟨(Below.cell hb3 hbl2).trans hS2.1, (Below.cell hb3 hbl2).trans hS2.2.1, (Below.cell hb3 hbl2).trans hS2.2.2.1, (Below.cell hb3 hbl2).trans hS2.2.2.2.1, (Below.cell hb3 hbl2).trans hS2.2.2.2.2⟩
      have hY3 := Box.below hY2 hb3 (Box.lt hY2)
      have hP3 := Below.trans hP2 (Below.mono hb3 (Below.size hP2))
      rcases hh3 with ⟨n2, hm2, rfl⟩ | ⟨hm2, rfl⟩
      rotate_left
      · have HPN := Lib.hid (NO2.out hm2)
        go_wp2
        exact ⟨rfl, hB3, Or.inr ⟨HPN.out, rfl⟩⟩
      have HM2 := Lib.hid hm2
      clear hm2
      go_wp2_with fail
      refine hK.out _ _ hS3 (fun hHeld3 => ?_)
      clear hK K
      try simp only [Act.put]
      refine wpAnyH_take (i := 13) (v := ?_) rfl (by kernel_rfl) (by kernel_rfl) (by kernel_rfl) (fun _ _ _ h => h) (Or.inl ⟨by rfl, ?_⟩) (by assumption) ?_
      rotate_left
      · (intro w' hSw; (try dsimp only at hSw); obtain ⟨hc0, hc1, hc2, hc3, hc4⟩ := hSw; go_simp; try with_reducible rfl)
      try simp only [Act.put]
      refine wpAnyH_ready (rs := [17]) (by kernel_rfl) (by simp) ?_
      refine AllReadyH.cons rfl (fun K hK => ?_) (AllReadyH.nil)
      go_simp
      go_at_call 117
      refine (bytesOf_any a3 _ (by omega) hV3.tab).mono ?_
      rintro e wt4 ⟨hb4, hh4⟩
      have hX4 := Box.below hX3 hb4 (Box.lt hX3)
      have hB4 := Below.trans hB3 (Below.mono hb4 (Below.size hB3))
      have hV4 := LogVars.below hV3 hb4
      have hbl4 := Nat.lt_of_lt_of_le hbl3 (Below.size hb4)
      have hS4 : wt4.cell? ⟨b, off, none⟩ = some (.string a0) ∧ wt4.cell? ⟨b, off + 1, none⟩ = some (.string a1) ∧ wt4.cell? ⟨b, off + 2, none⟩ = some (.string a2) ∧ wt4.cell? ⟨b, off + 3, none⟩ = some (.string a3) ∧ wt4.cell? ⟨b, off + 4, none⟩ = some (.string a4) := ⟨(Below.cell hb4 hbl3).trans hS3.1, (Below.cell hb4 hbl3).trans hS3.2.1, (Below.cell hb4 hbl3).trans hS3.2.2.1, (Below.cell hb4 hbl3).trans hS3.2.2.2.1, (Below.cell hb4 hbl3).trans hS3.2.2.2.2⟩
      have hY4 := Box.below hY3 hb4 (Box.lt hY3)
      have hP4 := Below.trans hP3 (Below.mono hb4 (Below.size hP3))
      rcases hh4 with rfl | ⟨hm3, hm3u, rfl⟩
      rotate_left
      · have HPN := Lib.hid (NO3.out hm3 hm3u)
        go_wp2
        exact ⟨rfl, hB4, Or.inr ⟨HPN.out, rfl⟩⟩
      go_wp2_with fail
      refine hK.out _ _ hS4 (fun hHeld4 => ?_)
      clear hK K
      try simp only [Act.put]
      refine wpAnyH_take (i := 18) (v := ?_) rfl (by kernel_rfl) (by kernel_rfl) (by kernel_rfl) (fun _ _ _ h => h) (Or.inl ⟨by rfl, ?_⟩) (by assumption) ?_
      rotate_left
      · (intro w' hSw; (try dsimp only at hSw); obtain ⟨hc0, hc1, hc2, hc3, hc4⟩ := hSw; go_simp; try with_reducible rfl)
      try simp only [Act.put]
      refine wpAnyH_ready (rs := [22]) (by kernel_rfl) (by simp) ?_
      refine AllReadyH.cons rfl (fun K hK => ?_) (AllReadyH.nil)
      go_simp
      go_at_call 115
      refine (markOf_any a4 _ (by omega) hV4.libs).mono ?_
      rintro e wt5 ⟨hb5, hh5⟩
      have hX5 := Box.below hX4 hb5 (Box.lt hX4)
      have hB5 := Below.trans hB4 (Below.mono hb5 (Below.size hB4))
      have hV5 := LogVars.below hV4 hb5
      have hbl5 := Nat.lt_of_lt_of_le hbl4 (Below.size hb5)
      have hS5 : wt5.cell? ⟨b, off, none⟩ = some (.string a0) ∧ wt5.cell? ⟨b, off + 1, none⟩ = some (.string a1) ∧ wt5.cell? ⟨b, off + 2, none⟩ = some (.string a2) ∧ wt5.cell? ⟨b, off + 3, none⟩ = some (.string a3) ∧ wt5.cell? ⟨b, off + 4, none⟩ = some (.string a4) := ⟨(Below.cell hb5 hbl4).trans hS4.1, (Below.cell hb5 hbl4).trans hS4.2.1, (Below.cell hb5 hbl4).trans hS4.2.2.1, (Below.cell hb5 hbl4).trans hS4.2.2.2.1, (Below.cell hb5 hbl4).trans hS4.2.2.2.2⟩
      have hY5 := Box.below hY4 hb5 (Box.lt hY4)
      have hP5 := Below.trans hP4 (Below.mono hb5 (Below.size hP4))
      rcases hh5 with ⟨n3, n4, -, rfl⟩ | ⟨hm4, rfl⟩
      rotate_left
      · have HPN := Lib.hid (NO4.out hm4)
        go_wp2
        exact ⟨rfl, hB5, Or.inr ⟨HPN.out, rfl⟩⟩
      go_wp2_with fail
      refine hK.out _ _ hS5 (fun hHeld5 => ?_)
      clear hK K
      try simp only [Act.put]
      refine wpAnyH_take (i := 23) (v := ?_) rfl (by kernel_rfl) (by kernel_rfl) (by kernel_rfl) (fun _ _ _ h => h) (Or.inl ⟨by rfl, ?_⟩) (by assumption) ?_
      rotate_left
      · (intro w' hSw; (try dsimp only at hSw); obtain ⟨hc0, hc1, hc2, hc3, hc4⟩ := hSw; go_simp; try with_reducible rfl)
      try simp only [Act.put]
      refine wpAnyH_take (i := 24) (v := ?_) rfl (by kernel_rfl) (by kernel_rfl) (by kernel_rfl) (fun _ _ _ h => h) (Or.inl ⟨by rfl, ?_⟩) (by assumption) ?_
      rotate_left
      · (intro w' hSw; (try dsimp only at hSw); obtain ⟨hc0, hc1, hc2, hc3, hc4⟩ := hSw; go_simp; try with_reducible rfl)
      try simp only [Act.put]
      refine wpAnyH_ready (rs := [25]) (by kernel_rfl) (by simp) ?_
      refine AllReadyH.cons rfl (fun K hK => ?_) (AllReadyH.nil)
      go_simp
      go_at_call 114
      refine (recOf_any n0 n1 n3 n4 n2 a1 (textOf a3) _).mono ?_
      rintro e wt6 ⟨rfl, hb6⟩
      have hX6 := Box.below hX5 hb6 (Box.lt hX5)
      have hB6 := Below.trans hB5 (Below.mono hb6 (Below.size hB5))
      have hV6 := LogVars.below hV5 hb6
      have hbl6 := Nat.lt_of_lt_of_le hbl5 (Below.size hb6)
      have hS6 : wt6.cell? ⟨b, off, none⟩ = some (.string a0) ∧ wt6.cell? ⟨b, off + 1, none⟩ = some (.string a1) ∧ wt6.cell? ⟨b, off + 2, none⟩ = some (.string a2) ∧ wt6.cell? ⟨b, off + 3, none⟩ = some (.string a3) ∧ wt6.cell? ⟨b, off + 4, none⟩ = some (.string a4) := ⟨(Below.cell hb6 hbl5).trans hS5.1, (Below.cell hb6 hbl5).trans hS5.2.1, (Below.cell hb6 hbl5).trans hS5.2.2.1, (Below.cell hb6 hbl5).trans hS5.2.2.2.1, (Below.cell hb6 hbl5).trans hS5.2.2.2.2⟩
      have hY6 := Box.below hY5 hb6 (Box.lt hY5)
      have hP6 := Below.trans hP5 (Below.mono hb6 (Below.size hP5))
      go_wp2_with fail
      refine hK.out _ _ hS6 (fun hHeld6 => ?_)
      clear hK K
      try simp only [Act.put]
      refine wpAnyH_ready (rs := [27]) (by kernel_rfl) (by simp) ?_
      refine AllReadyH.cons rfl (fun K hK => ?_) (AllReadyH.nil)
      have k0 := Box.cell hY6 0 rfl
      have k1 := Box.cell hY6 1 rfl
      have k2 := Box.cell hY6 2 rfl
      have k3 := Box.cell hY6 3 rfl
      have k4 := Box.cell hY6 4 rfl
      have k5 := Box.cell hY6 5 rfl
      have k6 := Box.cell hY6 6 rfl
      have q0 := Box.open_ hY6 0
      have q1 := Box.open_ hY6 1
      have q2 := Box.open_ hY6 2
      have q3 := Box.open_ hY6 3
      have q4 := Box.open_ hY6 4
      have q5 := Box.open_ hY6 5
      have q6 := Box.open_ hY6 6
      have hPF : Below wd.heap.size _ (((((((wt6.setCell ⟨wd.heap.size, 0, none⟩ (.int .i64 n0)).setCell ⟨wd.heap.size, 1, none⟩ (.int .i64 n1)).setCell ⟨wd.heap.size, 2, none⟩ (.int .i64 3)).setCell ⟨wd.heap.size, 3, none⟩ (.string a1)).setCell ⟨wd.heap.size, 4, none⟩ (.string ⟨#[]⟩)).setCell ⟨wd.heap.size, 5, none⟩ (.int .i64 n2)).setCell ⟨wd.heap.size, 6, none⟩ (.string (textOf a3))) := (((((((hP6.setCell (p := ⟨wd.heap.size, 0, none⟩) (Nat.le_refl _) (.int .i64 n0)).setCell (p := ⟨wd.heap.size, 1, none⟩) (Nat.le_refl _) (.int .i64 n1)).setCell (p := ⟨wd.heap.size, 2, none⟩) (Nat.le_refl _) (.int .i64 3)).setCell (p := ⟨wd.heap.size, 3, none⟩) (Nat.le_refl _) (.string a1)).setCell (p := ⟨wd.heap.size, 4, none⟩) (Nat.le_refl _) (.string ⟨#[]⟩)).setCell (p := ⟨wd.heap.size, 5, none⟩) (Nat.le_refl _) (.int .i64 n2)).setCell (p := ⟨wd.heap.size, 6, none⟩) (Nat.le_refl _) (.string (textOf a3)))
      have hYF : Box (((((((wt6.setCell ⟨wd.heap.size, 0, none⟩ (.int .i64 n0)).setCell ⟨wd.heap.size, 1, none⟩ (.int .i64 n1)).setCell ⟨wd.heap.size, 2, none⟩ (.int .i64 3)).setCell ⟨wd.heap.size, 3, none⟩ (.string a1)).setCell ⟨wd.heap.size, 4, none⟩ (.string ⟨#[]⟩)).setCell ⟨wd.heap.size, 5, none⟩ (.int .i64 n2)).setCell ⟨wd.heap.size, 6, none⟩ (.string (textOf a3))) wd.heap.size [.int .i64 n0, .int .i64 n1, .int .i64 3, .string a1, .string ⟨#[]⟩, .int .i64 n2, .string (textOf a3)] := (((((((hY6.set 0 (.int .i64 n0)).set 1 (.int .i64 n1)).set 2 (.int .i64 3)).set 3 (.string a1)).set 4 (.string ⟨#[]⟩)).set 5 (.int .i64 n2)).set 6 (.string (textOf a3)))
      have hXF := Box.below hX0 hPF (Box.lt hX0)
      have hBF := Below.trans hB0 (Below.mono hPF (Below.size hB0))
      have hVF := LogVars.below hV0 hPF
      have hSF : (((((((wt6.setCell ⟨wd.heap.size, 0, none⟩ (.int .i64 n0)).setCell ⟨wd.heap.size, 1, none⟩ (.int .i64 n1)).setCell ⟨wd.heap.size, 2, none⟩ (.int .i64 3)).setCell ⟨wd.heap.size, 3, none⟩ (.string a1)).setCell ⟨wd.heap.size, 4, none⟩ (.string ⟨#[]⟩)).setCell ⟨wd.heap.size, 5, none⟩ (.int .i64 n2)).setCell ⟨wd.heap.size, 6, none⟩ (.string (textOf a3))).cell? ⟨b, off, none⟩ = some (.string a0) ∧ (((((((wt6.setCell ⟨wd.heap.size, 0, none⟩ (.int .i64 n0)).setCell ⟨wd.heap.size, 1, none⟩ (.int .i64 n1)).setCell ⟨wd.heap.size, 2, none⟩ (.int .i64 3)).setCell ⟨wd.heap.size, 3, none⟩ (.string a1)).setCell ⟨wd.heap.size, 4, none⟩ (.string ⟨#[]⟩)).setCell ⟨wd.heap.size, 5, none⟩ (.int .i64 n2)).setCell ⟨wd.heap.size, 6, none⟩ (.string (textOf a3))).cell? ⟨b, off + 1, none⟩ = some (.string a1) ∧ (((((((wt6.setCell ⟨wd.heap.size, 0, none⟩ (.int .i64 n0)).setCell ⟨wd.heap.size, 1, none⟩ (.int .i64 n1)).setCell ⟨wd.heap.size, 2, none⟩ (.int .i64 3)).setCell ⟨wd.heap.size, 3, none⟩ (.string a1)).setCell ⟨wd.heap.size, 4, none⟩ (.string ⟨#[]⟩)).setCell ⟨wd.heap.size, 5, none⟩ (.int .i64 n2)).setCell ⟨wd.heap.size, 6, none⟩ (.string (textOf a3))).cell? ⟨b, off + 2, none⟩ = some (.string a2) ∧ (((((((wt6.setCell ⟨wd.heap.size, 0, none⟩ (.int .i64 n0)).setCell ⟨wd.heap.size, 1, none⟩ (.int .i64 n1)).setCell ⟨wd.heap.size, 2, none⟩ (.int .i64 3)).setCell ⟨wd.heap.size, 3, none⟩ (.string a1)).setCell ⟨wd.heap.size, 4, none⟩ (.string ⟨#[]⟩)).setCell ⟨wd.heap.size, 5, none⟩ (.int .i64 n2)).setCell ⟨wd.heap.size, 6, none⟩ (.string (textOf a3))).cell? ⟨b, off + 3, none⟩ = some (.string a3) ∧ (((((((wt6.setCell ⟨wd.heap.size, 0, none⟩ (.int .i64 n0)).setCell ⟨wd.heap.size, 1, none⟩ (.int .i64 n1)).setCell ⟨wd.heap.size, 2, none⟩ (.int .i64 3)).setCell ⟨wd.heap.size, 3, none⟩ (.string a1)).setCell ⟨wd.heap.size, 4, none⟩ (.string ⟨#[]⟩)).setCell ⟨wd.heap.size, 5, none⟩ (.int .i64 n2)).setCell ⟨wd.heap.size, 6, none⟩ (.string (textOf a3))).cell? ⟨b, off + 4, none⟩ = some (.string a4) := ⟨(Below.cell hPF hbl0).trans hS0.1, (Below.cell hPF hbl0).trans hS0.2.1, (Below.cell hPF hbl0).trans hS0.2.2.1, (Below.cell hPF hbl0).trans hS0.2.2.2.1, (Below.cell hPF hbl0).trans hS0.2.2.2.2⟩
      go_simp
      refine hK.out _ _ hSF (fun hHeld7 => ?_)
      clear hK K
      try simp only [Act.put]
      try (change wpAnyH _ _ _ _ _ _ _ _ (((((((wt6.setCell ⟨wd.heap.size, 0, none⟩ (.int .i64 n0)).setCell ⟨wd.heap.size, 1, none⟩ (.int .i64 n1)).setCell ⟨wd.heap.size, 2, none⟩ (.int .i64 3)).setCell ⟨wd.heap.size, 3, none⟩ (.string a1)).setCell ⟨wd.heap.size, 4, none⟩ (.string ⟨#[]⟩)).setCell ⟨wd.heap.size, 5, none⟩ (.int .i64 n2)).setCell ⟨wd.heap.size, 6, none⟩ (.string (textOf a3))))
      clear hPF hSF
      generalize (((((((wt6.setCell ⟨wd.heap.size, 0, none⟩ (.int .i64 n0)).setCell ⟨wd.heap.size, 1, none⟩ (.int .i64 n1)).setCell ⟨wd.heap.size, 2, none⟩ (.int .i64 3)).setCell ⟨wd.heap.size, 3, none⟩ (.string a1)).setCell ⟨wd.heap.size, 4, none⟩ (.string ⟨#[]⟩)).setCell ⟨wd.heap.size, 5, none⟩ (.int .i64 n2)).setCell ⟨wd.heap.size, 6, none⟩ (.string (textOf a3))) = wF at hYF hXF hBF hVF ⊢
      refine wpAnyH_done (by kernel_rfl) ?_ _
      go_simp
      have YF := Lib.hid hYF
      have XF := Lib.hid hXF
      have BF := Lib.hid hBF
      have VF := Lib.hid hVF
      clear hYF hXF hBF hVF
      have HS2 := Lib.hid (show ∀ r, LSpells t r → r = ⟨n0, n1, 3, a1, ⟨#[]⟩, n2, textOf a3⟩ from fun r h => by
        obtain ⟨m, q, k, hr, h1, h2, h3, hm, hk, _, _⟩ := HAT.out r h
        obtain ⟨e0, e1⟩ := HM0.out m q ⟨h1, h2, hm⟩
        have e2 : (k : Int) = n2 := by
          have := HM2.out
          rw [hk, atoi_digs k (by omega)] at this
          injection this
        rw [hr, e0, e1, e2])
      have htx := textOf_size a3
      obtain ⟨x, HX⟩ : ∃ x, Hid (textOf a3 = x) := ⟨_, Lib.hid rfl⟩
      rw [HX.out] at htx HS2 YF ⊢
      have hxs : x.size ≤ maxLen := by unfold maxLen; omega
      obtain ⟨R, HR⟩ : ∃ R, Hid (logText ⟨n0, n1, 3, a1, ⟨#[]⟩, n2, x⟩ = R) := ⟨_, Lib.hid rfl⟩
      have z0 := YF.out.cell 0 rfl
      have z1 := YF.out.cell 1 rfl
      have z2 := YF.out.cell 2 rfl
      have z3 := YF.out.cell 3 rfl
      have z4 := YF.out.cell 4 rfl
      have z5 := YF.out.cell 5 rfl
      have z6 := YF.out.cell 6 rfl
      go_wp2_with fail
      refine (implLog_is ⟨n0, n1, 3, a1, ⟨#[]⟩, n2, x⟩ R _ (by unfold maxLen; simp only; omega) hxs VF.out.libs.pow VF.out.tab HR.out).mono ?_
      rintro e w5 ⟨rfl, hb⟩
      have X5 := Lib.hid (XF.out.below hb XF.out.lt)
      have Y5 := Lib.hid (YF.out.below hb YF.out.lt)
      have B5 := Lib.hid (BF.out.trans (hb.mono BF.out.size))
      clear hb XF YF BF VF z0 z1 z2 z3 z4 z5 z6
      by_cases hR : R = t
      case neg =>
        have HN := Lib.hid (show ∀ r, ¬ LSpells t r from fun r h => hR (by rw [← HR.out, ← HS2.out r h]; exact h.2))
        have hq := ne_text hR
        clear hR
        go_wp2
        exact ⟨rfl, B5.out, Or.inr ⟨HN.out, rfl⟩⟩
      case pos =>
        have HY := Lib.hid (lspells_of HO.out (HR.out.trans hR))
        subst hR
        have hq : (R.toList == R.toList) = true := by simp
        have z0 := Y5.out.cell 0 rfl
        have z1 := Y5.out.cell 1 rfl
        have z2 := Y5.out.cell 2 rfl
        have z3 := Y5.out.cell 3 rfl
        have z4 := Y5.out.cell 4 rfl
        have z5 := Y5.out.cell 5 rfl
        have z6 := Y5.out.cell 6 rfl
        have c0 := X5.out.cell 0 rfl
        have c1 := X5.out.cell 1 rfl
        have c2 := X5.out.cell 2 rfl
        have c3 := X5.out.cell 3 rfl
        have c4 := X5.out.cell 4 rfl
        have c5 := X5.out.cell 5 rfl
        have c6 := X5.out.cell 6 rfl
        have f0 := X5.out.open_ 0
        have f1 := X5.out.open_ 1
        have f2 := X5.out.open_ 2
        have f3 := X5.out.open_ 3
        have f4 := X5.out.open_ 4
        have f5 := X5.out.open_ 5
        have f6 := X5.out.open_ 6
        have XE := Lib.hid (show Box _ w.heap.size [.int .i64 n0, .int .i64 n1, .int .i64 3, .string a1, .string ⟨#[]⟩, .int .i64 n2, .string x] from (((((((X5.out.set 0 (.int .i64 n0)).set 1 (.int .i64 n1)).set 2 (.int .i64 3)).set 3 (.string a1)).set 4 (.string ⟨#[]⟩)).set 5 (.int .i64 n2)).set 6 (.string x)))
        have BE := Lib.hid (((((((B5.out.setCell (p := ⟨w.heap.size, 0, none⟩) (Nat.le_refl _) (.int .i64 n0)).setCell (p := ⟨w.heap.size, 1, none⟩) (Nat.le_refl _) (.int .i64 n1)).setCell (p := ⟨w.heap.size, 2, none⟩) (Nat.le_refl _) (.int .i64 3)).setCell (p := ⟨w.heap.size, 3, none⟩) (Nat.le_refl _) (.string a1)).setCell (p := ⟨w.heap.size, 4, none⟩) (Nat.le_refl _) (.string ⟨#[]⟩)).setCell (p := ⟨w.heap.size, 5, none⟩) (Nat.le_refl _) (.int .i64 n2)).setCell (p := ⟨w.heap.size, 6, none⟩) (Nat.le_refl _) (.string x))
        go_wp2
        have y0 := XE.out.cell 0 rfl
        have y1 := XE.out.cell 1 rfl
        have y2 := XE.out.cell 2 rfl
        have y3 := XE.out.cell 3 rfl
        have y4 := XE.out.cell 4 rfl
        have y5 := XE.out.cell 5 rfl
        have y6 := XE.out.cell 6 rfl
        refine bodyPost_ret (v := rv ⟨n0, n1, 3, a1, ⟨#[]⟩, n2, x⟩) ?_ rfl ⟨BE.out, Or.inl ⟨_, HY.out, rfl⟩⟩
        simp [results, Tryz.results41, go_sem, y0, y1, y2, y3, y4, y5, y6]
end Go.Proofs.YtgjlhokakcdpbaaGreatDoor
