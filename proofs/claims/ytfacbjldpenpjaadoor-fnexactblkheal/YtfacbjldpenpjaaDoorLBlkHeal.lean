/-
  The law on BlkHeal, walked.
-/
import Derived.Test.YtfacbjldpenpjaaDoorBlkHI
import Derived.Test.YtfacbjldpenpjaaDoorCuts
import Derived.Test.YtfacbjldpenpjaaDoorLDiskFlush
set_option maxRecDepth 100000
namespace Go.Proofs.YtfacbjldpenpjaaDoor
open Go.ChangeShapes Go.WideShapes Go.ChangeAt Go.RowKit Go.Proofs.Palim

theorem specHeal_is (v0 v1 vl : Value) (d : DiskM) (p : PtrM) (w : World) (h : DiskR w v0 v1 vl d) (hs : DiskShort d) (r : DiskM) (cd : Int) (h1 : healD d p = r) (h2 : healC d p = cd) :
    Calls Tryd.prog 29 #[.agg #[v0, v1, vl], pv p] w (NewDiskC w r cd) := h1 ▸ h2 ▸ specBlkHeal_any v0 v1 vl d p w h hs
theorem implHeal_is (v0 v1 vl : Value) (d : DiskM) (p : PtrM) (a0 a1 : Addr) (w : World) (h : DiskR w v0 v1 vl d) (hs : DiskShort d) (he : Errs w a0 a1) (r : DiskM) (cd : Int) (h1 : healD d p = r) (h2 : healC d p = cd) :
    Calls Tryd.prog 30 #[.agg #[v0, v1, vl], pv p] w (NewDiskC w r cd) := h1 ▸ h2 ▸ implBlkHeal_any v0 v1 vl d p a0 a1 w h hs he
/-- What holds behind a region that hands a disk and a code on. -/
def After (w w0 : World) (C : Nat) (v0 v1 vl : Value) (p : PtrM) (r : DiskM) (cd : Int) (s6 s7 : Value) (wx : World) : Prop :=
  ∃ N s0 s1 sl, s6 = .pointer (some ⟨N, 0, none⟩) ∧ s7 = .int .i64 cd ∧ Hid (Lw w w0 wx C v0 v1 vl p) ∧ Hid (Res wx C N s0 s1 sl r)

set_option maxHeartbeats 8000000 in
theorem lawBlkHeal (v0 v1 vl : Value) (d : DiskM) (p : PtrM) (a0 a1 : Addr) (w : World) (h : DiskR w v0 v1 vl d) (he : Errs w a0 a1) (hz0 : ∀ s ∈ d.s0, s.size ≤ maxLen) (hz1 : ∀ s ∈ d.s1, s.size ≤ maxLen) (hzl : ∀ l ∈ d.late, l.text.size ≤ maxLen) :
    Calls Tryd.prog 8 #[.agg #[v0, v1, vl], pv p] w fun e w' => e = .returned (.bool true) ∧ Below w.heap.size w w' := by
  have hnot : ∀ (x : Bool) (w : World), (Op.unary .not (.bool x)).run Tryd.prog w = .ok (.bool (!x)) w := fun _ _ => rfl
  have HD := Lib.hid h
  have HE := Lib.hid he
  have HZ0 := Lib.hid hz0
  have HZ1 := Lib.hid hz1
  have HZL := Lib.hid hzl
  obtain ⟨r, HR⟩ : ∃ r, Hid (healD d p = r) := ⟨_, Lib.hid rfl⟩
  obtain ⟨cd, HCD⟩ : ∃ cd, Hid (healC d p = cd) := ⟨_, Lib.hid rfl⟩
  have hb2 := box2 w #[v0, v1, vl] #[.int .i64 p.at_, .int .i64 p.sum, .int .i64 p.birth] 52 42
  have L0 := Lib.hid (show Lw w _ _ _ v0 v1 vl p from ⟨hb2.1, hb2.2.1, hb2.2.2.2, Below.refl _ _, Nat.le_refl _⟩)
  have hs0 := hb2.2.2.1
  clear h hz0 hz1 hzl he hb2
  go_enter Tryd.func8, Tryd.ntmps8
  go_wp2_with fail
  refine (szDisk_any v0 v1 vl d 1048576 _ (L0.out.reads HD.out) HZ0.out HZ1.out HZL.out (by omega) (by omega)).mono ?_
  rintro e w1 ⟨⟨rr, rfl, hr⟩, hb⟩
  have L1 := Lib.hid (L0.out.on hb).anew
  have hs1 : w.heap.size + 2 ≤ w1.heap.size := by have := hb.size; omega
  clear hb L0 hs0
  rcases hr with rfl | ⟨hr0, hr1⟩
  · go_wp2
    go_ret
    exact ⟨rfl, L1.out.bl⟩
  have HS := Lib.hid (short_of_sz (d := d) (by omega))
  have RS := Lib.hid (show DiskShort r from HR.out ▸ short_heal HS.out)
  have hr2 : ¬ rr < 0 := by omega
  clear hr1 HZ0 HZ1 HZL
  have hwC := hs1
  -- spec's answer
  go_upto_region 5 with fail
  go_cut [6, 7] from 21 to 28 (fun s6 s7 wx => After w w1 w1.heap.size v0 v1 vl p r cd s6 s7 wx)
  case first =>
    have hL0 := Lw.drew L1.out
    refine wp_region_held_drew (S := fun w' => Lw w w1 w' w1.heap.size v0 v1 vl p) (by kernel_rfl) hL0 (fun hHeld => ?_)
    clear hL0
    generalize w1.drew = wd at hHeld ⊢
    refine wpAnyH_take (i := 0) (v := ?_) rfl (by kernel_rfl) (by kernel_rfl) (by kernel_rfl) (fun _ _ _ h => h) (Or.inl ⟨by rfl, ?_⟩) (by assumption) ?_
    rotate_left
    · (intro w' hSw; obtain ⟨hx0, hx1, hx2⟩ := hSw.xd.three; obtain ⟨hy0, hy1, hy2⟩ := hSw.xp.three; go_simp; try with_reducible rfl)
    try simp only [Act.put]
    refine wpAnyH_take (i := 2) (v := ?_) rfl (by kernel_rfl) (by kernel_rfl) (by kernel_rfl) (fun _ _ _ h => h) (Or.inl ⟨by rfl, ?_⟩) (by assumption) ?_
    rotate_left
    · (intro w' hSw; obtain ⟨hx0, hx1, hx2⟩ := hSw.xd.three; obtain ⟨hy0, hy1, hy2⟩ := hSw.xp.three; go_simp; try with_reducible rfl)
    try simp only [Act.put]
    refine wpAnyH_ready (rs := [1, 8]) (by kernel_rfl) (by simp) ?_
    refine AllReadyH.cons rfl (fun K hK => ?_) (AllReadyH.cons rfl (fun K hK => ?_) (AllReadyH.nil))
    · have hway : True := trivial
      go_simp
      go_at_call 25
      refine (toDisk_any v0 v1 vl d _ (hHeld.reads HD.out) HS.out).mono ?_
      rintro e wt1 ⟨b0, b1, bl, rfl, hbo, hb1⟩
      have hD1 := hbo.reads
      go_wp2_with fail
      refine hK.out _ _ (hHeld.on hb1) (fun hHeld1 => ?_)
      clear hK K
      try simp only [Act.put]
      refine wpAnyH_ready (rs := [3, 8]) (by kernel_rfl) (by simp) ?_
      refine AllReadyH.cons rfl (fun K hK => ?_) (AllReadyH.cons rfl (fun K hK => ?_) (AllReadyH.nil))
      · have hway : True := trivial
        go_simp
        go_at_call 18
        refine (toPtr_any p _).mono ?_
        rintro e wt2 ⟨rfl, hb2⟩
        have hD2 := DiskR.below hD1 hb2
        go_wp2_with fail
        refine hK.out _ _ (hHeld1.on hb2) (fun hHeld2 => ?_)
        clear hK K
        try simp only [Act.put]
        refine wpAnyH_ready (rs := [4, 8]) (by kernel_rfl) (by simp) ?_
        refine AllReadyH.cons rfl (fun K hK => ?_) (AllReadyH.cons rfl (fun K hK => ?_) (AllReadyH.nil))
        · have hway : True := trivial
          go_simp
          go_at_call 29
          refine (specHeal_is b0 b1 bl d p _ hD2 HS.out r cd HR.out HCD.out).mono ?_
          rintro e wt3 ⟨s0, s1, sl, rfl, hso, hb3⟩
          have hD3 := DiskR.below hD2 hb3
          have hO3 := DiskOwn.base hso hHeld2.hC
          obtain ⟨S0, m0, S1, m1, Sl_, ml, rfl, rfl, rfl⟩ := hso.forms
          go_wp2_with fail
          refine hK.out _ _ (hHeld2.on hb3) (fun hHeld3 => ?_)
          clear hK K
          try simp only [Act.put]
          refine wpAnyH_take (i := 5) (v := ?_) rfl (by kernel_rfl) (by kernel_rfl) (by kernel_rfl) (fun _ _ _ h => h) (Or.inl ⟨by rfl, ?_⟩) (by assumption) ?_
          rotate_left
          · (intro w' hSw; obtain ⟨hx0, hx1, hx2⟩ := hSw.xd.three; obtain ⟨hy0, hy1, hy2⟩ := hSw.xp.three; go_simp; try with_reducible rfl)
          try simp only [Act.put]
          refine wpAnyH_take (i := 6) (v := ?_) rfl (by kernel_rfl) (by kernel_rfl) (by kernel_rfl) (fun _ _ _ h => h) (Or.inl ⟨by rfl, ?_⟩) (by assumption) ?_
          rotate_left
          · (intro w' hSw; obtain ⟨hx0, hx1, hx2⟩ := hSw.xd.three; obtain ⟨hy0, hy1, hy2⟩ := hSw.xp.three; go_simp; try with_reducible rfl)
          try simp only [Act.put]
          refine wpAnyH_take (i := 7) (v := ?_) rfl (by kernel_rfl) (by kernel_rfl) (by kernel_rfl) (fun _ _ _ h => h) (Or.inl ⟨by rfl, ?_⟩) (by assumption) ?_
          rotate_left
          · (intro w' hSw; obtain ⟨hx0, hx1, hx2⟩ := hSw.xd.three; obtain ⟨hy0, hy1, hy2⟩ := hSw.xp.three; go_simp; try with_reducible rfl)
          try simp only [Act.put]
          refine wpAnyH_ready (rs := [8]) (by kernel_rfl) (by simp) ?_
          refine AllReadyH.cons rfl (fun K hK => ?_) (AllReadyH.nil)
          have hN4 := box_new wt3 #[.slice none 0 0, .slice none 0 0, .slice none 0 0] 27
          have hnw4 := Below.new (w := wt3) (.cells #[.slice none 0 0, .slice none 0 0, .slice none 0 0] 27)
          have hCN := Lw.hC hHeld3
          have hnx := (DiskR.low (DiskOwn.reads hO3)).past (Nat.le_refl _)
          have hO4 := DiskOwn.below hO3 hnw4
          have hD4 := DiskR.below hD3 hnw4
          go_simp
          refine hK.out _ _ (hHeld3.on hnw4) (fun hHeld4 => ?_)
          clear hK K
          try simp only [Act.put]
          clear hnw4
          generalize wt3.alloc (.cells #[.slice none 0 0, .slice none 0 0, .slice none 0 0] 27) = wa4 at hHeld4 hN4 hO4 hD4 ⊢
          refine wpAnyH_ready (rs := [9]) (by kernel_rfl) (by simp) ?_
          refine AllReadyH.cons rfl (fun K hK => ?_) (AllReadyH.nil)
          obtain ⟨n0, n1, n2⟩ := Box.three hN4
          have q0 := Box.open_ hN4 0
          have q1 := Box.open_ hN4 1
          have q2 := Box.open_ hN4 2
          have hR := res_store hN4 rfl hO4 hnx hCN
          go_simp
          refine hK.out _ _ (hHeld4.set3 hwC hCN _ _ _) (fun hHeld5 => ?_)
          clear hK K
          try simp only [Act.put]
          refine wpAnyH_take (i := 10) (v := ?_) rfl (by kernel_rfl) (by kernel_rfl) (by kernel_rfl) (fun _ _ _ h => h) (Or.inl ⟨by rfl, ?_⟩) (by assumption) ?_
          rotate_left
          · (intro w' hSw; obtain ⟨hx0, hx1, hx2⟩ := hSw.xd.three; obtain ⟨hy0, hy1, hy2⟩ := hSw.xp.three; go_simp; try with_reducible rfl)
          try simp only [Act.put]
          refine wpAnyH_done (by kernel_rfl) ?_ _
          go_simp
          go_wp2_with fail
          go_meet
          exact ⟨_, _, _, _, rfl, rfl, Lib.hid hHeld5, Lib.hid hR⟩
        · have hway : True := trivial
          have hN3 := box_new wt2 #[.slice none 0 0, .slice none 0 0, .slice none 0 0] 27
          have hnw3 := Below.new (w := wt2) (.cells #[.slice none 0 0, .slice none 0 0, .slice none 0 0] 27)
          have hCN := Lw.hC hHeld2
          have hD3 := DiskR.below hD2 hnw3
          go_simp
          refine hK.out _ _ (hHeld2.on hnw3) (fun hHeld3 => ?_)
          clear hK K
          try simp only [Act.put]
          clear hnw3
          generalize wt2.alloc (.cells #[.slice none 0 0, .slice none 0 0, .slice none 0 0] 27) = wa3 at hHeld3 hN3 hD3 ⊢
          refine wpAnyH_ready (rs := [4]) (by kernel_rfl) (by simp) ?_
          refine AllReadyH.cons rfl (fun K hK => ?_) (AllReadyH.nil)
          go_simp
          go_at_call 29
          refine (specHeal_is b0 b1 bl d p _ hD3 HS.out r cd HR.out HCD.out).mono ?_
          rintro e wt4 ⟨s0, s1, sl, rfl, hso, hb4⟩
          have hN4 := Box.below hN3 hb4 (Box.lt hN3)
          have hD4 := DiskR.below hD3 hb4
          have hO4 := DiskOwn.base hso hHeld3.hC
          have hnx := DiskOwn.past hso (Box.lt hN3)
          obtain ⟨S0, m0, S1, m1, Sl_, ml, rfl, rfl, rfl⟩ := hso.forms
          go_wp2_with fail
          refine hK.out _ _ (hHeld3.on hb4) (fun hHeld4 => ?_)
          clear hK K
          try simp only [Act.put]
          refine wpAnyH_take (i := 5) (v := ?_) rfl (by kernel_rfl) (by kernel_rfl) (by kernel_rfl) (fun _ _ _ h => h) (Or.inl ⟨by rfl, ?_⟩) (by assumption) ?_
          rotate_left
          · (intro w' hSw; obtain ⟨hx0, hx1, hx2⟩ := hSw.xd.three; obtain ⟨hy0, hy1, hy2⟩ := hSw.xp.three; go_simp; try with_reducible rfl)
          try simp only [Act.put]
          refine wpAnyH_take (i := 6) (v := ?_) rfl (by kernel_rfl) (by kernel_rfl) (by kernel_rfl) (fun _ _ _ h => h) (Or.inl ⟨by rfl, ?_⟩) (by assumption) ?_
          rotate_left
          · (intro w' hSw; obtain ⟨hx0, hx1, hx2⟩ := hSw.xd.three; obtain ⟨hy0, hy1, hy2⟩ := hSw.xp.three; go_simp; try with_reducible rfl)
          try simp only [Act.put]
          refine wpAnyH_take (i := 7) (v := ?_) rfl (by kernel_rfl) (by kernel_rfl) (by kernel_rfl) (fun _ _ _ h => h) (Or.inl ⟨by rfl, ?_⟩) (by assumption) ?_
          rotate_left
          · (intro w' hSw; obtain ⟨hx0, hx1, hx2⟩ := hSw.xd.three; obtain ⟨hy0, hy1, hy2⟩ := hSw.xp.three; go_simp; try with_reducible rfl)
          try simp only [Act.put]
          refine wpAnyH_ready (rs := [9]) (by kernel_rfl) (by simp) ?_
          refine AllReadyH.cons rfl (fun K hK => ?_) (AllReadyH.nil)
          obtain ⟨n0, n1, n2⟩ := Box.three hN4
          have q0 := Box.open_ hN4 0
          have q1 := Box.open_ hN4 1
          have q2 := Box.open_ hN4 2
          have hR := res_store hN4 rfl hO4 hnx hCN
          go_simp
          refine hK.out _ _ (hHeld4.set3 hwC hCN _ _ _) (fun hHeld5 => ?_)
          clear hK K
          try simp only [Act.put]
          refine wpAnyH_take (i := 10) (v := ?_) rfl (by kernel_rfl) (by kernel_rfl) (by kernel_rfl) (fun _ _ _ h => h) (Or.inl ⟨by rfl, ?_⟩) (by assumption) ?_
          rotate_left
          · (intro w' hSw; obtain ⟨hx0, hx1, hx2⟩ := hSw.xd.three; obtain ⟨hy0, hy1, hy2⟩ := hSw.xp.three; go_simp; try with_reducible rfl)
          try simp only [Act.put]
          refine wpAnyH_done (by kernel_rfl) ?_ _
          go_simp
          go_wp2_with fail
          go_meet
          exact ⟨_, _, _, _, rfl, rfl, Lib.hid hHeld5, Lib.hid hR⟩
      · have hway : True := trivial
        have hN2 := box_new wt1 #[.slice none 0 0, .slice none 0 0, .slice none 0 0] 27
        have hnw2 := Below.new (w := wt1) (.cells #[.slice none 0 0, .slice none 0 0, .slice none 0 0] 27)
        have hCN := Lw.hC hHeld1
        have hD2 := DiskR.below hD1 hnw2
        go_simp
        refine hK.out _ _ (hHeld1.on hnw2) (fun hHeld2 => ?_)
        clear hK K
        try simp only [Act.put]
        clear hnw2
        generalize wt1.alloc (.cells #[.slice none 0 0, .slice none 0 0, .slice none 0 0] 27) = wa2 at hHeld2 hN2 hD2 ⊢
        refine wpAnyH_ready (rs := [3]) (by kernel_rfl) (by simp) ?_
        refine AllReadyH.cons rfl (fun K hK => ?_) (AllReadyH.nil)
        go_simp
        go_at_call 18
        refine (toPtr_any p _).mono ?_
        rintro e wt3 ⟨rfl, hb3⟩
        have hN3 := Box.below hN2 hb3 (Box.lt hN2)
        have hD3 := DiskR.below hD2 hb3
        go_wp2_with fail
        refine hK.out _ _ (hHeld2.on hb3) (fun hHeld3 => ?_)
        clear hK K
        try simp only [Act.put]
        refine wpAnyH_ready (rs := [4]) (by kernel_rfl) (by simp) ?_
        refine AllReadyH.cons rfl (fun K hK => ?_) (AllReadyH.nil)
        go_simp
        go_at_call 29
        refine (specHeal_is b0 b1 bl d p _ hD3 HS.out r cd HR.out HCD.out).mono ?_
        rintro e wt4 ⟨s0, s1, sl, rfl, hso, hb4⟩
        have hN4 := Box.below hN3 hb4 (Box.lt hN3)
        have hD4 := DiskR.below hD3 hb4
        have hO4 := DiskOwn.base hso hHeld3.hC
        have hnx := DiskOwn.past hso (Box.lt hN3)
        obtain ⟨S0, m0, S1, m1, Sl_, ml, rfl, rfl, rfl⟩ := hso.forms
        go_wp2_with fail
        refine hK.out _ _ (hHeld3.on hb4) (fun hHeld4 => ?_)
        clear hK K
        try simp only [Act.put]
        refine wpAnyH_take (i := 5) (v := ?_) rfl (by kernel_rfl) (by kernel_rfl) (by kernel_rfl) (fun _ _ _ h => h) (Or.inl ⟨by rfl, ?_⟩) (by assumption) ?_
        rotate_left
        · (intro w' hSw; obtain ⟨hx0, hx1, hx2⟩ := hSw.xd.three; obtain ⟨hy0, hy1, hy2⟩ := hSw.xp.three; go_simp; try with_reducible rfl)
        try simp only [Act.put]
        refine wpAnyH_take (i := 6) (v := ?_) rfl (by kernel_rfl) (by kernel_rfl) (by kernel_rfl) (fun _ _ _ h => h) (Or.inl ⟨by rfl, ?_⟩) (by assumption) ?_
        rotate_left
        · (intro w' hSw; obtain ⟨hx0, hx1, hx2⟩ := hSw.xd.three; obtain ⟨hy0, hy1, hy2⟩ := hSw.xp.three; go_simp; try with_reducible rfl)
        try simp only [Act.put]
        refine wpAnyH_take (i := 7) (v := ?_) rfl (by kernel_rfl) (by kernel_rfl) (by kernel_rfl) (fun _ _ _ h => h) (Or.inl ⟨by rfl, ?_⟩) (by assumption) ?_
        rotate_left
        · (intro w' hSw; obtain ⟨hx0, hx1, hx2⟩ := hSw.xd.three; obtain ⟨hy0, hy1, hy2⟩ := hSw.xp.three; go_simp; try with_reducible rfl)
        try simp only [Act.put]
        refine wpAnyH_ready (rs := [9]) (by kernel_rfl) (by simp) ?_
        refine AllReadyH.cons rfl (fun K hK => ?_) (AllReadyH.nil)
        obtain ⟨n0, n1, n2⟩ := Box.three hN4
        have q0 := Box.open_ hN4 0
        have q1 := Box.open_ hN4 1
        have q2 := Box.open_ hN4 2
        have hR := res_store hN4 rfl hO4 hnx hCN
        go_simp
        refine hK.out _ _ (hHeld4.set3 hwC hCN _ _ _) (fun hHeld5 => ?_)
        clear hK K
        try simp only [Act.put]
        refine wpAnyH_take (i := 10) (v := ?_) rfl (by kernel_rfl) (by kernel_rfl) (by kernel_rfl) (fun _ _ _ h => h) (Or.inl ⟨by rfl, ?_⟩) (by assumption) ?_
        rotate_left
        · (intro w' hSw; obtain ⟨hx0, hx1, hx2⟩ := hSw.xd.three; obtain ⟨hy0, hy1, hy2⟩ := hSw.xp.three; go_simp; try with_reducible rfl)
        try simp only [Act.put]
        refine wpAnyH_done (by kernel_rfl) ?_ _
        go_simp
        go_wp2_with fail
        go_meet
        exact ⟨_, _, _, _, rfl, rfl, Lib.hid hHeld5, Lib.hid hR⟩
    · have hway : True := trivial
      have hN1 := box_new wd #[.slice none 0 0, .slice none 0 0, .slice none 0 0] 27
      have hnw1 := Below.new (w := wd) (.cells #[.slice none 0 0, .slice none 0 0, .slice none 0 0] 27)
      have hCN := Lw.hC hHeld
      go_simp
      refine hK.out _ _ (hHeld.on hnw1) (fun hHeld1 => ?_)
      clear hK K
      try simp only [Act.put]
      clear hnw1
      generalize wd.alloc (.cells #[.slice none 0 0, .slice none 0 0, .slice none 0 0] 27) = wa1 at hHeld1 hN1 ⊢
      refine wpAnyH_ready (rs := [1]) (by kernel_rfl) (by simp) ?_
      refine AllReadyH.cons rfl (fun K hK => ?_) (AllReadyH.nil)
      go_simp
      go_at_call 25
      refine (toDisk_any v0 v1 vl d _ (hHeld1.reads HD.out) HS.out).mono ?_
      rintro e wt2 ⟨b0, b1, bl, rfl, hbo, hb2⟩
      have hN2 := Box.below hN1 hb2 (Box.lt hN1)
      have hD2 := hbo.reads
      go_wp2_with fail
      refine hK.out _ _ (hHeld1.on hb2) (fun hHeld2 => ?_)
      clear hK K
      try simp only [Act.put]
      refine wpAnyH_ready (rs := [3]) (by kernel_rfl) (by simp) ?_
      refine AllReadyH.cons rfl (fun K hK => ?_) (AllReadyH.nil)
      go_simp
      go_at_call 18
      refine (toPtr_any p _).mono ?_
      rintro e wt3 ⟨rfl, hb3⟩
      have hN3 := Box.below hN2 hb3 (Box.lt hN2)
      have hD3 := DiskR.below hD2 hb3
      go_wp2_with fail
      refine hK.out _ _ (hHeld2.on hb3) (fun hHeld3 => ?_)
      clear hK K
      try simp only [Act.put]
      refine wpAnyH_ready (rs := [4]) (by kernel_rfl) (by simp) ?_
      refine AllReadyH.cons rfl (fun K hK => ?_) (AllReadyH.nil)
      go_simp
      go_at_call 29
      refine (specHeal_is b0 b1 bl d p _ hD3 HS.out r cd HR.out HCD.out).mono ?_
      rintro e wt4 ⟨s0, s1, sl, rfl, hso, hb4⟩
      have hN4 := Box.below hN3 hb4 (Box.lt hN3)
      have hD4 := DiskR.below hD3 hb4
      have hO4 := DiskOwn.base hso hHeld3.hC
      have hnx := DiskOwn.past hso (Box.lt hN3)
      obtain ⟨S0, m0, S1, m1, Sl_, ml, rfl, rfl, rfl⟩ := hso.forms
      go_wp2_with fail
      refine hK.out _ _ (hHeld3.on hb4) (fun hHeld4 => ?_)
      clear hK K
      try simp only [Act.put]
      refine wpAnyH_take (i := 5) (v := ?_) rfl (by kernel_rfl) (by kernel_rfl) (by kernel_rfl) (fun _ _ _ h => h) (Or.inl ⟨by rfl, ?_⟩) (by assumption) ?_
      rotate_left
      · (intro w' hSw; obtain ⟨hx0, hx1, hx2⟩ := hSw.xd.three; obtain ⟨hy0, hy1, hy2⟩ := hSw.xp.three; go_simp; try with_reducible rfl)
      try simp only [Act.put]
      refine wpAnyH_take (i := 6) (v := ?_) rfl (by kernel_rfl) (by kernel_rfl) (by kernel_rfl) (fun _ _ _ h => h) (Or.inl ⟨by rfl, ?_⟩) (by assumption) ?_
      rotate_left
      · (intro w' hSw; obtain ⟨hx0, hx1, hx2⟩ := hSw.xd.three; obtain ⟨hy0, hy1, hy2⟩ := hSw.xp.three; go_simp; try with_reducible rfl)
      try simp only [Act.put]
      refine wpAnyH_take (i := 7) (v := ?_) rfl (by kernel_rfl) (by kernel_rfl) (by kernel_rfl) (fun _ _ _ h => h) (Or.inl ⟨by rfl, ?_⟩) (by assumption) ?_
      rotate_left
      · (intro w' hSw; obtain ⟨hx0, hx1, hx2⟩ := hSw.xd.three; obtain ⟨hy0, hy1, hy2⟩ := hSw.xp.three; go_simp; try with_reducible rfl)
      try simp only [Act.put]
      refine wpAnyH_ready (rs := [9]) (by kernel_rfl) (by simp) ?_
      refine AllReadyH.cons rfl (fun K hK => ?_) (AllReadyH.nil)
      obtain ⟨n0, n1, n2⟩ := Box.three hN4
      have q0 := Box.open_ hN4 0
      have q1 := Box.open_ hN4 1
      have q2 := Box.open_ hN4 2
      have hR := res_store hN4 rfl hO4 hnx hCN
      go_simp
      refine hK.out _ _ (hHeld4.set3 hwC hCN _ _ _) (fun hHeld5 => ?_)
      clear hK K
      try simp only [Act.put]
      refine wpAnyH_take (i := 10) (v := ?_) rfl (by kernel_rfl) (by kernel_rfl) (by kernel_rfl) (fun _ _ _ h => h) (Or.inl ⟨by rfl, ?_⟩) (by assumption) ?_
      rotate_left
      · (intro w' hSw; obtain ⟨hx0, hx1, hx2⟩ := hSw.xd.three; obtain ⟨hy0, hy1, hy2⟩ := hSw.xp.three; go_simp; try with_reducible rfl)
      try simp only [Act.put]
      refine wpAnyH_done (by kernel_rfl) ?_ _
      go_simp
      go_wp2_with fail
      go_meet
      exact ⟨_, _, _, _, rfl, rfl, Lib.hid hHeld5, Lib.hid hR⟩
  case rest =>
  obtain ⟨N6, s0, s1, sl, rfl, rfl, L5, R5⟩ := hcut
  revert L5 R5
  generalize wc = w5
  intro L5 R5
  obtain ⟨A0, k0, A1, k1, Al, kl, rfl, rfl, rfl⟩ := R5.out.own.forms
  have hw5 : w.heap.size + 2 ≤ w5.heap.size := Nat.le_trans hs1 L5.out.hC
  have hN6 : N6 < w5.heap.size := R5.out.box.lt
  have LO6 := Lib.hid (DiskR.low R5.out.own.reads)
  obtain ⟨z0, z1, z2⟩ := L5.out.xd.three
  go_wp2_with fail
  -- x0
  refine (toDisk_any v0 v1 vl d _ (L5.out.reads HD.out) HS.out).mono ?_
  rintro e w6 ⟨y0, y1, yl, rfl, ha, hb⟩
  obtain ⟨X0, m0, X1, m1, Xl, ml, rfl, rfl, rfl⟩ := ha.forms
  have hn := Below.new (w := w6) (.cells #[.slice X0 d.s0.length m0, .slice X1 d.s1.length m1, .slice Xl d.late.length ml] 27)
  have L6 := Lib.hid (((L5.out.on hb).on hn).anew)
  have R6 := Lib.hid ((R5.out.below hb).below hn)
  have XX := Lib.hid (show Res (w6.alloc (.cells #[.slice X0 d.s0.length m0, .slice X1 d.s1.length m1, .slice Xl d.late.length ml] 27)) w5.heap.size w6.heap.size _ _ _ d from ⟨box_new _ _ _, ha.below hn, (DiskR.low ha.reads).past (Nat.le_refl _), hb.size⟩)
  clear ha hb hn L5 R5 z0 z1 z2
  go_wp2_with fail
  obtain ⟨w7, hw7⟩ : ∃ w7, w6.alloc (.cells #[.slice X0 d.s0.length m0, .slice X1 d.s1.length m1, .slice Xl d.late.length ml] 27) = w7 := ⟨_, rfl⟩
  rw [hw7] at L6 R6 XX ⊢
  clear hw7
  generalize w6.heap.size = N8 at XX ⊢
  have hN8 := XX.out.box.lt
  have hN8' := XX.out.hN
  have LX := Lib.hid (DiskR.low XX.out.own.reads)
  have hwC : w.heap.size + 2 ≤ w7.heap.size := by omega
  -- impl's answer
  go_upto_region 7 with fail
  go_cut [9, 10] from 31 to 37 (fun s9 s10 wx => After w w7 w7.heap.size v0 v1 vl p r cd s9 s10 wx)
  case first =>
    have hL0 := Lw.drew L6.out
    refine wp_region_held_drew (S := fun w' => Lw w w7 w' w7.heap.size v0 v1 vl p) (by kernel_rfl) hL0 (fun hHeld => ?_)
    clear hL0
    generalize w7.drew = wd at hHeld ⊢
    refine wpAnyH_take (i := 0) (v := ?_) rfl (by kernel_rfl) (by kernel_rfl) (by kernel_rfl) (fun _ _ _ h => h) (Or.inl ⟨by rfl, ?_⟩) (by assumption) ?_
    rotate_left
    · (intro w' hSw; obtain ⟨hx0, hx1, hx2⟩ := (Box.below XX.out.box hSw.bs (Box.lt XX.out.box)).three; obtain ⟨hy0, hy1, hy2⟩ := hSw.xp.three; go_simp; try with_reducible rfl)
    try simp only [Act.put]
    refine wpAnyH_take (i := 1) (v := ?_) rfl (by kernel_rfl) (by kernel_rfl) (by kernel_rfl) (fun _ _ _ h => h) (Or.inl ⟨by rfl, ?_⟩) (by assumption) ?_
    rotate_left
    · (intro w' hSw; obtain ⟨hx0, hx1, hx2⟩ := (Box.below XX.out.box hSw.bs (Box.lt XX.out.box)).three; obtain ⟨hy0, hy1, hy2⟩ := hSw.xp.three; go_simp; try with_reducible rfl)
    try simp only [Act.put]
    refine wpAnyH_ready (rs := [2, 7]) (by kernel_rfl) (by simp) ?_
    refine AllReadyH.cons rfl (fun K hK => ?_) (AllReadyH.cons rfl (fun K hK => ?_) (AllReadyH.nil))
    · have hway : True := trivial
      go_simp
      go_at_call 18
      refine (toPtr_any p _).mono ?_
      rintro e wt1 ⟨rfl, hb1⟩
      go_wp2_with fail
      refine hK.out _ _ (hHeld.on hb1) (fun hHeld1 => ?_)
      clear hK K
      try simp only [Act.put]
      refine wpAnyH_ready (rs := [3, 7]) (by kernel_rfl) (by simp) ?_
      refine AllReadyH.cons rfl (fun K hK => ?_) (AllReadyH.cons rfl (fun K hK => ?_) (AllReadyH.nil))
      · have hway : True := trivial
        go_simp
        go_at_call 30
        refine (implHeal_is _ _ _ d p a0 a1 _ (DiskR.below XX.out.own.reads hHeld1.bs) HS.out (HE.out.below hHeld1.bl) r cd HR.out HCD.out).mono ?_
        rintro e wt2 ⟨s0, s1, sl, rfl, hso, hb2⟩
        have hO2 := DiskOwn.base hso hHeld1.hC
        obtain ⟨S0, m0, S1, m1, Sl_, ml, rfl, rfl, rfl⟩ := hso.forms
        go_wp2_with fail
        refine hK.out _ _ (hHeld1.on hb2) (fun hHeld2 => ?_)
        clear hK K
        try simp only [Act.put]
        refine wpAnyH_take (i := 4) (v := ?_) rfl (by kernel_rfl) (by kernel_rfl) (by kernel_rfl) (fun _ _ _ h => h) (Or.inl ⟨by rfl, ?_⟩) (by assumption) ?_
        rotate_left
        · (intro w' hSw; obtain ⟨hx0, hx1, hx2⟩ := (Box.below XX.out.box hSw.bs (Box.lt XX.out.box)).three; obtain ⟨hy0, hy1, hy2⟩ := hSw.xp.three; go_simp; try with_reducible rfl)
        try simp only [Act.put]
        refine wpAnyH_take (i := 5) (v := ?_) rfl (by kernel_rfl) (by kernel_rfl) (by kernel_rfl) (fun _ _ _ h => h) (Or.inl ⟨by rfl, ?_⟩) (by assumption) ?_
        rotate_left
        · (intro w' hSw; obtain ⟨hx0, hx1, hx2⟩ := (Box.below XX.out.box hSw.bs (Box.lt XX.out.box)).three; obtain ⟨hy0, hy1, hy2⟩ := hSw.xp.three; go_simp; try with_reducible rfl)
        try simp only [Act.put]
        refine wpAnyH_take (i := 6) (v := ?_) rfl (by kernel_rfl) (by kernel_rfl) (by kernel_rfl) (fun _ _ _ h => h) (Or.inl ⟨by rfl, ?_⟩) (by assumption) ?_
        rotate_left
        · (intro w' hSw; obtain ⟨hx0, hx1, hx2⟩ := (Box.below XX.out.box hSw.bs (Box.lt XX.out.box)).three; obtain ⟨hy0, hy1, hy2⟩ := hSw.xp.three; go_simp; try with_reducible rfl)
        try simp only [Act.put]
        refine wpAnyH_ready (rs := [7]) (by kernel_rfl) (by simp) ?_
        refine AllReadyH.cons rfl (fun K hK => ?_) (AllReadyH.nil)
        have hN3 := box_new wt2 #[.slice none 0 0, .slice none 0 0, .slice none 0 0] 27
        have hnw3 := Below.new (w := wt2) (.cells #[.slice none 0 0, .slice none 0 0, .slice none 0 0] 27)
        have hCN := Lw.hC hHeld2
        have hnx := (DiskR.low (DiskOwn.reads hO2)).past (Nat.le_refl _)
        have hO3 := DiskOwn.below hO2 hnw3
        go_simp
        refine hK.out _ _ (hHeld2.on hnw3) (fun hHeld3 => ?_)
        clear hK K
        try simp only [Act.put]
        clear hnw3
        generalize wt2.alloc (.cells #[.slice none 0 0, .slice none 0 0, .slice none 0 0] 27) = wa3 at hHeld3 hN3 hO3 ⊢
        refine wpAnyH_ready (rs := [8]) (by kernel_rfl) (by simp) ?_
        refine AllReadyH.cons rfl (fun K hK => ?_) (AllReadyH.nil)
        obtain ⟨n0, n1, n2⟩ := Box.three hN3
        have q0 := Box.open_ hN3 0
        have q1 := Box.open_ hN3 1
        have q2 := Box.open_ hN3 2
        have hR := res_store hN3 rfl hO3 hnx hCN
        go_simp
        refine hK.out _ _ (hHeld3.set3 hwC hCN _ _ _) (fun hHeld4 => ?_)
        clear hK K
        try simp only [Act.put]
        refine wpAnyH_take (i := 9) (v := ?_) rfl (by kernel_rfl) (by kernel_rfl) (by kernel_rfl) (fun _ _ _ h => h) (Or.inl ⟨by rfl, ?_⟩) (by assumption) ?_
        rotate_left
        · (intro w' hSw; obtain ⟨hx0, hx1, hx2⟩ := (Box.below XX.out.box hSw.bs (Box.lt XX.out.box)).three; obtain ⟨hy0, hy1, hy2⟩ := hSw.xp.three; go_simp; try with_reducible rfl)
        try simp only [Act.put]
        refine wpAnyH_done (by kernel_rfl) ?_ _
        go_simp
        go_wp2_with fail
        go_meet
        exact ⟨_, _, _, _, rfl, rfl, Lib.hid hHeld4, Lib.hid hR⟩
      · have hway : True := trivial
        have hN2 := box_new wt1 #[.slice none 0 0, .slice none 0 0, .slice none 0 0] 27
        have hnw2 := Below.new (w := wt1) (.cells #[.slice none 0 0, .slice none 0 0, .slice none 0 0] 27)
        have hCN := Lw.hC hHeld1
        go_simp
        refine hK.out _ _ (hHeld1.on hnw2) (fun hHeld2 => ?_)
        clear hK K
        try simp only [Act.put]
        clear hnw2
        generalize wt1.alloc (.cells #[.slice none 0 0, .slice none 0 0, .slice none 0 0] 27) = wa2 at hHeld2 hN2 ⊢
        refine wpAnyH_ready (rs := [3]) (by kernel_rfl) (by simp) ?_
        refine AllReadyH.cons rfl (fun K hK => ?_) (AllReadyH.nil)
        go_simp
        go_at_call 30
        refine (implHeal_is _ _ _ d p a0 a1 _ (DiskR.below XX.out.own.reads hHeld2.bs) HS.out (HE.out.below hHeld2.bl) r cd HR.out HCD.out).mono ?_
        rintro e wt3 ⟨s0, s1, sl, rfl, hso, hb3⟩
        have hN3 := Box.below hN2 hb3 (Box.lt hN2)
        have hO3 := DiskOwn.base hso hHeld2.hC
        have hnx := DiskOwn.past hso (Box.lt hN2)
        obtain ⟨S0, m0, S1, m1, Sl_, ml, rfl, rfl, rfl⟩ := hso.forms
        go_wp2_with fail
        refine hK.out _ _ (hHeld2.on hb3) (fun hHeld3 => ?_)
        clear hK K
        try simp only [Act.put]
        refine wpAnyH_take (i := 4) (v := ?_) rfl (by kernel_rfl) (by kernel_rfl) (by kernel_rfl) (fun _ _ _ h => h) (Or.inl ⟨by rfl, ?_⟩) (by assumption) ?_
        rotate_left
        · (intro w' hSw; obtain ⟨hx0, hx1, hx2⟩ := (Box.below XX.out.box hSw.bs (Box.lt XX.out.box)).three; obtain ⟨hy0, hy1, hy2⟩ := hSw.xp.three; go_simp; try with_reducible rfl)
        try simp only [Act.put]
        refine wpAnyH_take (i := 5) (v := ?_) rfl (by kernel_rfl) (by kernel_rfl) (by kernel_rfl) (fun _ _ _ h => h) (Or.inl ⟨by rfl, ?_⟩) (by assumption) ?_
        rotate_left
        · (intro w' hSw; obtain ⟨hx0, hx1, hx2⟩ := (Box.below XX.out.box hSw.bs (Box.lt XX.out.box)).three; obtain ⟨hy0, hy1, hy2⟩ := hSw.xp.three; go_simp; try with_reducible rfl)
        try simp only [Act.put]
        refine wpAnyH_take (i := 6) (v := ?_) rfl (by kernel_rfl) (by kernel_rfl) (by kernel_rfl) (fun _ _ _ h => h) (Or.inl ⟨by rfl, ?_⟩) (by assumption) ?_
        rotate_left
        · (intro w' hSw; obtain ⟨hx0, hx1, hx2⟩ := (Box.below XX.out.box hSw.bs (Box.lt XX.out.box)).three; obtain ⟨hy0, hy1, hy2⟩ := hSw.xp.three; go_simp; try with_reducible rfl)
        try simp only [Act.put]
        refine wpAnyH_ready (rs := [8]) (by kernel_rfl) (by simp) ?_
        refine AllReadyH.cons rfl (fun K hK => ?_) (AllReadyH.nil)
        obtain ⟨n0, n1, n2⟩ := Box.three hN3
        have q0 := Box.open_ hN3 0
        have q1 := Box.open_ hN3 1
        have q2 := Box.open_ hN3 2
        have hR := res_store hN3 rfl hO3 hnx hCN
        go_simp
        refine hK.out _ _ (hHeld3.set3 hwC hCN _ _ _) (fun hHeld4 => ?_)
        clear hK K
        try simp only [Act.put]
        refine wpAnyH_take (i := 9) (v := ?_) rfl (by kernel_rfl) (by kernel_rfl) (by kernel_rfl) (fun _ _ _ h => h) (Or.inl ⟨by rfl, ?_⟩) (by assumption) ?_
        rotate_left
        · (intro w' hSw; obtain ⟨hx0, hx1, hx2⟩ := (Box.below XX.out.box hSw.bs (Box.lt XX.out.box)).three; obtain ⟨hy0, hy1, hy2⟩ := hSw.xp.three; go_simp; try with_reducible rfl)
        try simp only [Act.put]
        refine wpAnyH_done (by kernel_rfl) ?_ _
        go_simp
        go_wp2_with fail
        go_meet
        exact ⟨_, _, _, _, rfl, rfl, Lib.hid hHeld4, Lib.hid hR⟩
    · have hway : True := trivial
      have hN1 := box_new wd #[.slice none 0 0, .slice none 0 0, .slice none 0 0] 27
      have hnw1 := Below.new (w := wd) (.cells #[.slice none 0 0, .slice none 0 0, .slice none 0 0] 27)
      have hCN := Lw.hC hHeld
      go_simp
      refine hK.out _ _ (hHeld.on hnw1) (fun hHeld1 => ?_)
      clear hK K
      try simp only [Act.put]
      clear hnw1
      generalize wd.alloc (.cells #[.slice none 0 0, .slice none 0 0, .slice none 0 0] 27) = wa1 at hHeld1 hN1 ⊢
      refine wpAnyH_ready (rs := [2]) (by kernel_rfl) (by simp) ?_
      refine AllReadyH.cons rfl (fun K hK => ?_) (AllReadyH.nil)
      go_simp
      go_at_call 18
      refine (toPtr_any p _).mono ?_
      rintro e wt2 ⟨rfl, hb2⟩
      have hN2 := Box.below hN1 hb2 (Box.lt hN1)
      go_wp2_with fail
      refine hK.out _ _ (hHeld1.on hb2) (fun hHeld2 => ?_)
      clear hK K
      try simp only [Act.put]
      refine wpAnyH_ready (rs := [3]) (by kernel_rfl) (by simp) ?_
      refine AllReadyH.cons rfl (fun K hK => ?_) (AllReadyH.nil)
      go_simp
      go_at_call 30
      refine (implHeal_is _ _ _ d p a0 a1 _ (DiskR.below XX.out.own.reads hHeld2.bs) HS.out (HE.out.below hHeld2.bl) r cd HR.out HCD.out).mono ?_
      rintro e wt3 ⟨s0, s1, sl, rfl, hso, hb3⟩
      have hN3 := Box.below hN2 hb3 (Box.lt hN2)
      have hO3 := DiskOwn.base hso hHeld2.hC
      have hnx := DiskOwn.past hso (Box.lt hN2)
      obtain ⟨S0, m0, S1, m1, Sl_, ml, rfl, rfl, rfl⟩ := hso.forms
      go_wp2_with fail
      refine hK.out _ _ (hHeld2.on hb3) (fun hHeld3 => ?_)
      clear hK K
      try simp only [Act.put]
      refine wpAnyH_take (i := 4) (v := ?_) rfl (by kernel_rfl) (by kernel_rfl) (by kernel_rfl) (fun _ _ _ h => h) (Or.inl ⟨by rfl, ?_⟩) (by assumption) ?_
      rotate_left
      · (intro w' hSw; obtain ⟨hx0, hx1, hx2⟩ := (Box.below XX.out.box hSw.bs (Box.lt XX.out.box)).three; obtain ⟨hy0, hy1, hy2⟩ := hSw.xp.three; go_simp; try with_reducible rfl)
      try simp only [Act.put]
      refine wpAnyH_take (i := 5) (v := ?_) rfl (by kernel_rfl) (by kernel_rfl) (by kernel_rfl) (fun _ _ _ h => h) (Or.inl ⟨by rfl, ?_⟩) (by assumption) ?_
      rotate_left
      · (intro w' hSw; obtain ⟨hx0, hx1, hx2⟩ := (Box.below XX.out.box hSw.bs (Box.lt XX.out.box)).three; obtain ⟨hy0, hy1, hy2⟩ := hSw.xp.three; go_simp; try with_reducible rfl)
      try simp only [Act.put]
      refine wpAnyH_take (i := 6) (v := ?_) rfl (by kernel_rfl) (by kernel_rfl) (by kernel_rfl) (fun _ _ _ h => h) (Or.inl ⟨by rfl, ?_⟩) (by assumption) ?_
      rotate_left
      · (intro w' hSw; obtain ⟨hx0, hx1, hx2⟩ := (Box.below XX.out.box hSw.bs (Box.lt XX.out.box)).three; obtain ⟨hy0, hy1, hy2⟩ := hSw.xp.three; go_simp; try with_reducible rfl)
      try simp only [Act.put]
      refine wpAnyH_ready (rs := [8]) (by kernel_rfl) (by simp) ?_
      refine AllReadyH.cons rfl (fun K hK => ?_) (AllReadyH.nil)
      obtain ⟨n0, n1, n2⟩ := Box.three hN3
      have q0 := Box.open_ hN3 0
      have q1 := Box.open_ hN3 1
      have q2 := Box.open_ hN3 2
      have hR := res_store hN3 rfl hO3 hnx hCN
      go_simp
      refine hK.out _ _ (hHeld3.set3 hwC hCN _ _ _) (fun hHeld4 => ?_)
      clear hK K
      try simp only [Act.put]
      refine wpAnyH_take (i := 9) (v := ?_) rfl (by kernel_rfl) (by kernel_rfl) (by kernel_rfl) (fun _ _ _ h => h) (Or.inl ⟨by rfl, ?_⟩) (by assumption) ?_
      rotate_left
      · (intro w' hSw; obtain ⟨hx0, hx1, hx2⟩ := (Box.below XX.out.box hSw.bs (Box.lt XX.out.box)).three; obtain ⟨hy0, hy1, hy2⟩ := hSw.xp.three; go_simp; try with_reducible rfl)
      try simp only [Act.put]
      refine wpAnyH_done (by kernel_rfl) ?_ _
      go_simp
      go_wp2_with fail
      go_meet
      exact ⟨_, _, _, _, rfl, rfl, Lib.hid hHeld4, Lib.hid hR⟩
  case rest =>
  obtain ⟨N9, g0, g1, gl, rfl, rfl, L8, RG8⟩ := hcut
  revert L8 RG8
  generalize wc = w8
  intro L8 RG8
  obtain ⟨G0, e0, G1, e1, Gl, el, rfl, rfl, rfl⟩ := RG8.out.own.forms
  have RA8 := Lib.hid (R6.out.below L8.out.bs)
  have XX8 := Lib.hid (XX.out.below L8.out.bs)
  have hN9 := RG8.out.hN
  have hw8 : w7.heap.size ≤ w8.heap.size := L8.out.hC
  clear R6 XX L6
  obtain ⟨z0, z1, z2⟩ := RG8.out.box.three
  obtain ⟨y0, y1, y2⟩ := RA8.out.box.three
  go_wp2_with fail
  refine (eqDisk_same _ _ _ _ _ _ r _ RG8.out.own.reads RA8.out.own.reads RS.out).mono ?_
  rintro e w9 ⟨rfl, hb⟩
  have hw9 : w7.heap.size ≤ w9.heap.size := Nat.le_trans hw8 hb.size
  have L9 := Lib.hid (L8.out.on hb).anew
  have RA9 := Lib.hid (RA8.out.below hb)
  have RG9 := Lib.hid (RG8.out.below hb)
  have XX9 := Lib.hid (XX8.out.below hb)
  clear hb L8 RA8 RG8 XX8
  clear z0 z1 z2 y0 y1 y2
  -- the argument is as it was
  obtain ⟨z0, z1, z2⟩ := L9.out.xd.three
  obtain ⟨y0, y1, y2⟩ := XX9.out.box.three
  have hld := L9.out.xd.lt
  have hlx := XX9.out.box.lt
  go_wp2_with fail
  have RD := Lib.hid (DiskR.drew (L9.out.reads HD.out))
  have RX := Lib.hid (DiskR.drew XX9.out.own.reads)
  go_region_held3 (fun w' => w'.cell? ⟨w.heap.size, 0, none⟩ = some v0 ∧ w'.cell? ⟨w.heap.size, 1, none⟩ = some v1 ∧ w'.cell? ⟨w.heap.size, 2, none⟩ = some vl ∧ w'.cell? ⟨N8, 0, none⟩ = some (.slice X0 d.s0.length m0) ∧ w'.cell? ⟨N8, 1, none⟩ = some (.slice X1 d.s1.length m1) ∧ w'.cell? ⟨N8, 2, none⟩ = some (.slice Xl d.late.length ml))
    (first
      | go_keep
      | (go_split_ands
         refine ⟨?_, ?_, ?_, ?_, ?_, ?_⟩
         all_goals (rw [hb11.cell (by have := hb10.size; simp at this; simp <;> omega), hb10.cell (by simp <;> omega)]; assumption))
      | (go_split_ands
         refine ⟨?_, ?_, ?_, ?_, ?_, ?_⟩
         all_goals (rw [hb10.cell (by simp <;> omega)]; assumption)))
    (first
      | (go_at_call 25; ((refine (toDisk_any v0 v1 vl d _ RD.out HS.out).mono ?_); rintro e w10 ⟨b0, b1, bl, rfl, hbo, hb10⟩))
      | (go_at_call 27; ((refine (eqDisk_same _ _ _ _ _ _ d _ (RX.out.below hb10) hbo.reads HS.out).mono ?_); rintro e w11 ⟨rfl, hb11⟩)))
  have hb := below_two (a := w9) hb10 hb11
  have hw11 : w7.heap.size ≤ w11.heap.size := Nat.le_trans hw9 hb.size
  have L11 := Lib.hid (L9.out.on hb).anew
  have RA11 := Lib.hid (RA9.out.below hb)
  have RG11 := Lib.hid (RG9.out.below hb)
  have XX11 := Lib.hid (XX9.out.below hb)
  clear hb L9 RA9 RG9 XX9
  clear hb10 hb11 hbo RD RX z0 z1 z2 y0 y1 y2 hld hlx
  obtain ⟨z0, z1, z2⟩ := XX11.out.box.three
  go_wp2_with fail
  -- the argument marked
  refine (markDisk_any _ _ _ d 1 w5.heap.size _ XX11.out.own HS.out (by omega) (by omega)).mono ?_
  rintro e w12 ⟨rfl, _, ht⟩
  have L12 := Lib.hid (L11.out.past ht XX11.out.own hw5 (by omega))
  have hA := RA11.out.past ht LO6.out hN6 XX11.out.own
  have XA12 := Lib.hid hA.1
  have DA12 := Lib.hid hA.2
  have XG12 := Lib.hid (RG11.out.box.turned ht (LX.out.past hN9))
  have OG12 := Lib.hid (RG11.out.own.above ht LX.out (Nat.le_refl _))
  have NG := Lib.hid RG11.out.nx
  have hw12 : w7.heap.size ≤ w12.heap.size := Nat.le_trans hw11 ht.size
  clear ht hA L11 RA11 RG11 XX11 z0 z1 z2
  have hm := dmend_small HS.out (k := 1) (by omega)
  obtain ⟨M, HM⟩ : ∃ M, Hid (dmend 1 d = M) := ⟨_, Lib.hid rfl⟩
  rw [HM.out] at hm
  rw [show 1 + d.s0.length + d.s1.length + 3 * d.late.length = M from HM.out]
  have hM0 : ¬ (M : Int) < 0 := by omega
  obtain ⟨z0, z1, z2⟩ := XG12.out.three
  obtain ⟨y0, y1, y2⟩ := XA12.out.three
  go_wp2_with fail
  refine (eqDisk_same _ _ _ _ _ _ r _ OG12.out.reads DA12.out RS.out).mono ?_
  rintro e w13 ⟨rfl, hb⟩
  have hw13 : w7.heap.size ≤ w13.heap.size := Nat.le_trans hw12 hb.size
  have L13 := Lib.hid (L12.out.on hb).anew
  have XA13 := Lib.hid (Box.below XA12.out hb (Box.lt XA12.out))
  have DA13 := Lib.hid (DiskR.below DA12.out hb)
  have XG13 := Lib.hid (Box.below XG12.out hb (Box.lt XG12.out))
  have OG13 := Lib.hid (DiskOwn.below OG12.out hb)
  clear hb L12 XA12 DA12 XG12 OG12
  clear z0 z1 z2 y0 y1 y2
  obtain ⟨z0, z1, z2⟩ := XG13.out.three
  go_wp2_with fail
  -- the answer marked
  refine (markDisk_any _ _ _ r 1 w7.heap.size _ OG13.out RS.out (by omega) (by omega)).mono ?_
  rintro e w14 ⟨rfl, hd, ht⟩
  have L14 := Lib.hid (L13.out.past ht OG13.out hwC hw13)
  have XA14 := Lib.hid (XA13.out.turned ht (OG13.out.past (by omega)))
  have DA14 := Lib.hid (DiskR.past DA13.out ht (LO6.out.mono (show w5.heap.size ≤ w7.heap.size by omega)) OG13.out)
  have XG14 := Lib.hid (XG13.out.turned ht NG.out)
  have OG14 := Lib.hid hd
  have hw14 : w7.heap.size ≤ w14.heap.size := Nat.le_trans hw13 ht.size
  clear hd ht L13 XA13 DA13 XG13 OG13 z0 z1 z2 NG
  have hq := dmend_small RS.out (k := 1) (by omega)
  obtain ⟨N, HN⟩ : ∃ N, Hid (dmend 1 r = N) := ⟨_, Lib.hid rfl⟩
  rw [HN.out] at hq
  rw [show 1 + r.s0.length + r.s1.length + 3 * r.late.length = N from HN.out]
  have hN0 : ¬ (N : Int) < 0 := by omega
  obtain ⟨z0, z1, z2⟩ := XG14.out.three
  go_wp2_with fail
  refine (heldDisk_any _ _ _ r.s0.length r.s1.length r.late.length 1 _ OG14.out.reads RS.out.n0 RS.out.n1 RS.out.nl (by omega) (by omega)).mono ?_
  rintro e w15 ⟨rfl, hb⟩
  rw [show 1 + r.s0.length + r.s1.length + 3 * r.late.length = N from HN.out]
  have hw15 : w7.heap.size ≤ w15.heap.size := Nat.le_trans hw14 hb.size
  have L15 := Lib.hid (L14.out.on hb).anew
  have XA15 := Lib.hid (Box.below XA14.out hb (Box.lt XA14.out))
  have DA15 := Lib.hid (DiskR.below DA14.out hb)
  have XG15 := Lib.hid (Box.below XG14.out hb (Box.lt XG14.out))
  have OG15 := Lib.hid (DiskOwn.below OG14.out hb)
  clear hb L14 XA14 DA14 XG14 OG14
  clear z0 z1 z2
  have hwC' := hwC
  clear hwC
  have hwC : w.heap.size + 2 ≤ w15.heap.size := by omega
  -- once more
  go_upto_region 24 with fail
  go_cut [14, 15] from 79 to 86 (fun s14 s15 wx => After w w15 w15.heap.size v0 v1 vl p r cd s14 s15 wx)
  case first =>
    have hL0 := Lw.drew L15.out
    refine wp_region_held_drew (S := fun w' => Lw w w15 w' w15.heap.size v0 v1 vl p) (by kernel_rfl) hL0 (fun hHeld => ?_)
    clear hL0
    generalize w15.drew = wd at hHeld ⊢
    refine wpAnyH_take (i := 0) (v := ?_) rfl (by kernel_rfl) (by kernel_rfl) (by kernel_rfl) (fun _ _ _ h => h) (Or.inl ⟨by rfl, ?_⟩) (by assumption) ?_
    rotate_left
    · (intro w' hSw; obtain ⟨hx0, hx1, hx2⟩ := hSw.xd.three; obtain ⟨hy0, hy1, hy2⟩ := hSw.xp.three; go_simp; try with_reducible rfl)
    try simp only [Act.put]
    refine wpAnyH_take (i := 2) (v := ?_) rfl (by kernel_rfl) (by kernel_rfl) (by kernel_rfl) (fun _ _ _ h => h) (Or.inl ⟨by rfl, ?_⟩) (by assumption) ?_
    rotate_left
    · (intro w' hSw; obtain ⟨hx0, hx1, hx2⟩ := hSw.xd.three; obtain ⟨hy0, hy1, hy2⟩ := hSw.xp.three; go_simp; try with_reducible rfl)
    try simp only [Act.put]
    refine wpAnyH_ready (rs := [1, 8]) (by kernel_rfl) (by simp) ?_
    refine AllReadyH.cons rfl (fun K hK => ?_) (AllReadyH.cons rfl (fun K hK => ?_) (AllReadyH.nil))
    · have hway : True := trivial
      go_simp
      go_at_call 25
      refine (toDisk_any v0 v1 vl d _ (hHeld.reads HD.out) HS.out).mono ?_
      rintro e wt1 ⟨b0, b1, bl, rfl, hbo, hb1⟩
      have hD1 := hbo.reads
      go_wp2_with fail
      refine hK.out _ _ (hHeld.on hb1) (fun hHeld1 => ?_)
      clear hK K
      try simp only [Act.put]
      refine wpAnyH_ready (rs := [3, 8]) (by kernel_rfl) (by simp) ?_
      refine AllReadyH.cons rfl (fun K hK => ?_) (AllReadyH.cons rfl (fun K hK => ?_) (AllReadyH.nil))
      · have hway : True := trivial
        go_simp
        go_at_call 18
        refine (toPtr_any p _).mono ?_
        rintro e wt2 ⟨rfl, hb2⟩
        have hD2 := DiskR.below hD1 hb2
        go_wp2_with fail
        refine hK.out _ _ (hHeld1.on hb2) (fun hHeld2 => ?_)
        clear hK K
        try simp only [Act.put]
        refine wpAnyH_ready (rs := [4, 8]) (by kernel_rfl) (by simp) ?_
        refine AllReadyH.cons rfl (fun K hK => ?_) (AllReadyH.cons rfl (fun K hK => ?_) (AllReadyH.nil))
        · have hway : True := trivial
          go_simp
          go_at_call 30
          refine (implHeal_is b0 b1 bl d p a0 a1 _ hD2 HS.out (HE.out.below hHeld2.bl) r cd HR.out HCD.out).mono ?_
          rintro e wt3 ⟨s0, s1, sl, rfl, hso, hb3⟩
          have hD3 := DiskR.below hD2 hb3
          have hO3 := DiskOwn.base hso hHeld2.hC
          obtain ⟨S0, m0, S1, m1, Sl_, ml, rfl, rfl, rfl⟩ := hso.forms
          go_wp2_with fail
          refine hK.out _ _ (hHeld2.on hb3) (fun hHeld3 => ?_)
          clear hK K
          try simp only [Act.put]
          refine wpAnyH_take (i := 5) (v := ?_) rfl (by kernel_rfl) (by kernel_rfl) (by kernel_rfl) (fun _ _ _ h => h) (Or.inl ⟨by rfl, ?_⟩) (by assumption) ?_
          rotate_left
          · (intro w' hSw; obtain ⟨hx0, hx1, hx2⟩ := hSw.xd.three; obtain ⟨hy0, hy1, hy2⟩ := hSw.xp.three; go_simp; try with_reducible rfl)
          try simp only [Act.put]
          refine wpAnyH_take (i := 6) (v := ?_) rfl (by kernel_rfl) (by kernel_rfl) (by kernel_rfl) (fun _ _ _ h => h) (Or.inl ⟨by rfl, ?_⟩) (by assumption) ?_
          rotate_left
          · (intro w' hSw; obtain ⟨hx0, hx1, hx2⟩ := hSw.xd.three; obtain ⟨hy0, hy1, hy2⟩ := hSw.xp.three; go_simp; try with_reducible rfl)
          try simp only [Act.put]
          refine wpAnyH_take (i := 7) (v := ?_) rfl (by kernel_rfl) (by kernel_rfl) (by kernel_rfl) (fun _ _ _ h => h) (Or.inl ⟨by rfl, ?_⟩) (by assumption) ?_
          rotate_left
          · (intro w' hSw; obtain ⟨hx0, hx1, hx2⟩ := hSw.xd.three; obtain ⟨hy0, hy1, hy2⟩ := hSw.xp.three; go_simp; try with_reducible rfl)
          try simp only [Act.put]
          refine wpAnyH_ready (rs := [8]) (by kernel_rfl) (by simp) ?_
          refine AllReadyH.cons rfl (fun K hK => ?_) (AllReadyH.nil)
          have hN4 := box_new wt3 #[.slice none 0 0, .slice none 0 0, .slice none 0 0] 27
          have hnw4 := Below.new (w := wt3) (.cells #[.slice none 0 0, .slice none 0 0, .slice none 0 0] 27)
          have hCN := Lw.hC hHeld3
          have hnx := (DiskR.low (DiskOwn.reads hO3)).past (Nat.le_refl _)
          have hO4 := DiskOwn.below hO3 hnw4
          have hD4 := DiskR.below hD3 hnw4
          go_simp
          refine hK.out _ _ (hHeld3.on hnw4) (fun hHeld4 => ?_)
          clear hK K
          try simp only [Act.put]
          clear hnw4
          generalize wt3.alloc (.cells #[.slice none 0 0, .slice none 0 0, .slice none 0 0] 27) = wa4 at hHeld4 hN4 hO4 hD4 ⊢
          refine wpAnyH_ready (rs := [9]) (by kernel_rfl) (by simp) ?_
          refine AllReadyH.cons rfl (fun K hK => ?_) (AllReadyH.nil)
          obtain ⟨n0, n1, n2⟩ := Box.three hN4
          have q0 := Box.open_ hN4 0
          have q1 := Box.open_ hN4 1
          have q2 := Box.open_ hN4 2
          have hR := res_store hN4 rfl hO4 hnx hCN
          go_simp
          refine hK.out _ _ (hHeld4.set3 hwC hCN _ _ _) (fun hHeld5 => ?_)
          clear hK K
          try simp only [Act.put]
          refine wpAnyH_take (i := 10) (v := ?_) rfl (by kernel_rfl) (by kernel_rfl) (by kernel_rfl) (fun _ _ _ h => h) (Or.inl ⟨by rfl, ?_⟩) (by assumption) ?_
          rotate_left
          · (intro w' hSw; obtain ⟨hx0, hx1, hx2⟩ := hSw.xd.three; obtain ⟨hy0, hy1, hy2⟩ := hSw.xp.three; go_simp; try with_reducible rfl)
          try simp only [Act.put]
          refine wpAnyH_done (by kernel_rfl) ?_ _
          go_simp
          go_wp2_with fail
          go_meet
          exact ⟨_, _, _, _, rfl, rfl, Lib.hid hHeld5, Lib.hid hR⟩
        · have hway : True := trivial
          have hN3 := box_new wt2 #[.slice none 0 0, .slice none 0 0, .slice none 0 0] 27
          have hnw3 := Below.new (w := wt2) (.cells #[.slice none 0 0, .slice none 0 0, .slice none 0 0] 27)
          have hCN := Lw.hC hHeld2
          have hD3 := DiskR.below hD2 hnw3
          go_simp
          refine hK.out _ _ (hHeld2.on hnw3) (fun hHeld3 => ?_)
          clear hK K
          try simp only [Act.put]
          clear hnw3
          generalize wt2.alloc (.cells #[.slice none 0 0, .slice none 0 0, .slice none 0 0] 27) = wa3 at hHeld3 hN3 hD3 ⊢
          refine wpAnyH_ready (rs := [4]) (by kernel_rfl) (by simp) ?_
          refine AllReadyH.cons rfl (fun K hK => ?_) (AllReadyH.nil)
          go_simp
          go_at_call 30
          refine (implHeal_is b0 b1 bl d p a0 a1 _ hD3 HS.out (HE.out.below hHeld3.bl) r cd HR.out HCD.out).mono ?_
          rintro e wt4 ⟨s0, s1, sl, rfl, hso, hb4⟩
          have hN4 := Box.below hN3 hb4 (Box.lt hN3)
          have hD4 := DiskR.below hD3 hb4
          have hO4 := DiskOwn.base hso hHeld3.hC
          have hnx := DiskOwn.past hso (Box.lt hN3)
          obtain ⟨S0, m0, S1, m1, Sl_, ml, rfl, rfl, rfl⟩ := hso.forms
          go_wp2_with fail
          refine hK.out _ _ (hHeld3.on hb4) (fun hHeld4 => ?_)
          clear hK K
          try simp only [Act.put]
          refine wpAnyH_take (i := 5) (v := ?_) rfl (by kernel_rfl) (by kernel_rfl) (by kernel_rfl) (fun _ _ _ h => h) (Or.inl ⟨by rfl, ?_⟩) (by assumption) ?_
          rotate_left
          · (intro w' hSw; obtain ⟨hx0, hx1, hx2⟩ := hSw.xd.three; obtain ⟨hy0, hy1, hy2⟩ := hSw.xp.three; go_simp; try with_reducible rfl)
          try simp only [Act.put]
          refine wpAnyH_take (i := 6) (v := ?_) rfl (by kernel_rfl) (by kernel_rfl) (by kernel_rfl) (fun _ _ _ h => h) (Or.inl ⟨by rfl, ?_⟩) (by assumption) ?_
          rotate_left
          · (intro w' hSw; obtain ⟨hx0, hx1, hx2⟩ := hSw.xd.three; obtain ⟨hy0, hy1, hy2⟩ := hSw.xp.three; go_simp; try with_reducible rfl)
          try simp only [Act.put]
          refine wpAnyH_take (i := 7) (v := ?_) rfl (by kernel_rfl) (by kernel_rfl) (by kernel_rfl) (fun _ _ _ h => h) (Or.inl ⟨by rfl, ?_⟩) (by assumption) ?_
          rotate_left
          · (intro w' hSw; obtain ⟨hx0, hx1, hx2⟩ := hSw.xd.three; obtain ⟨hy0, hy1, hy2⟩ := hSw.xp.three; go_simp; try with_reducible rfl)
          try simp only [Act.put]
          refine wpAnyH_ready (rs := [9]) (by kernel_rfl) (by simp) ?_
          refine AllReadyH.cons rfl (fun K hK => ?_) (AllReadyH.nil)
          obtain ⟨n0, n1, n2⟩ := Box.three hN4
          have q0 := Box.open_ hN4 0
          have q1 := Box.open_ hN4 1
          have q2 := Box.open_ hN4 2
          have hR := res_store hN4 rfl hO4 hnx hCN
          go_simp
          refine hK.out _ _ (hHeld4.set3 hwC hCN _ _ _) (fun hHeld5 => ?_)
          clear hK K
          try simp only [Act.put]
          refine wpAnyH_take (i := 10) (v := ?_) rfl (by kernel_rfl) (by kernel_rfl) (by kernel_rfl) (fun _ _ _ h => h) (Or.inl ⟨by rfl, ?_⟩) (by assumption) ?_
          rotate_left
          · (intro w' hSw; obtain ⟨hx0, hx1, hx2⟩ := hSw.xd.three; obtain ⟨hy0, hy1, hy2⟩ := hSw.xp.three; go_simp; try with_reducible rfl)
          try simp only [Act.put]
          refine wpAnyH_done (by kernel_rfl) ?_ _
          go_simp
          go_wp2_with fail
          go_meet
          exact ⟨_, _, _, _, rfl, rfl, Lib.hid hHeld5, Lib.hid hR⟩
      · have hway : True := trivial
        have hN2 := box_new wt1 #[.slice none 0 0, .slice none 0 0, .slice none 0 0] 27
        have hnw2 := Below.new (w := wt1) (.cells #[.slice none 0 0, .slice none 0 0, .slice none 0 0] 27)
        have hCN := Lw.hC hHeld1
        have hD2 := DiskR.below hD1 hnw2
        go_simp
        refine hK.out _ _ (hHeld1.on hnw2) (fun hHeld2 => ?_)
        clear hK K
        try simp only [Act.put]
        clear hnw2
        generalize wt1.alloc (.cells #[.slice none 0 0, .slice none 0 0, .slice none 0 0] 27) = wa2 at hHeld2 hN2 hD2 ⊢
        refine wpAnyH_ready (rs := [3]) (by kernel_rfl) (by simp) ?_
        refine AllReadyH.cons rfl (fun K hK => ?_) (AllReadyH.nil)
        go_simp
        go_at_call 18
        refine (toPtr_any p _).mono ?_
        rintro e wt3 ⟨rfl, hb3⟩
        have hN3 := Box.below hN2 hb3 (Box.lt hN2)
        have hD3 := DiskR.below hD2 hb3
        go_wp2_with fail
        refine hK.out _ _ (hHeld2.on hb3) (fun hHeld3 => ?_)
        clear hK K
        try simp only [Act.put]
        refine wpAnyH_ready (rs := [4]) (by kernel_rfl) (by simp) ?_
        refine AllReadyH.cons rfl (fun K hK => ?_) (AllReadyH.nil)
        go_simp
        go_at_call 30
        refine (implHeal_is b0 b1 bl d p a0 a1 _ hD3 HS.out (HE.out.below hHeld3.bl) r cd HR.out HCD.out).mono ?_
        rintro e wt4 ⟨s0, s1, sl, rfl, hso, hb4⟩
        have hN4 := Box.below hN3 hb4 (Box.lt hN3)
        have hD4 := DiskR.below hD3 hb4
        have hO4 := DiskOwn.base hso hHeld3.hC
        have hnx := DiskOwn.past hso (Box.lt hN3)
        obtain ⟨S0, m0, S1, m1, Sl_, ml, rfl, rfl, rfl⟩ := hso.forms
        go_wp2_with fail
        refine hK.out _ _ (hHeld3.on hb4) (fun hHeld4 => ?_)
        clear hK K
        try simp only [Act.put]
        refine wpAnyH_take (i := 5) (v := ?_) rfl (by kernel_rfl) (by kernel_rfl) (by kernel_rfl) (fun _ _ _ h => h) (Or.inl ⟨by rfl, ?_⟩) (by assumption) ?_
        rotate_left
        · (intro w' hSw; obtain ⟨hx0, hx1, hx2⟩ := hSw.xd.three; obtain ⟨hy0, hy1, hy2⟩ := hSw.xp.three; go_simp; try with_reducible rfl)
        try simp only [Act.put]
        refine wpAnyH_take (i := 6) (v := ?_) rfl (by kernel_rfl) (by kernel_rfl) (by kernel_rfl) (fun _ _ _ h => h) (Or.inl ⟨by rfl, ?_⟩) (by assumption) ?_
        rotate_left
        · (intro w' hSw; obtain ⟨hx0, hx1, hx2⟩ := hSw.xd.three; obtain ⟨hy0, hy1, hy2⟩ := hSw.xp.three; go_simp; try with_reducible rfl)
        try simp only [Act.put]
        refine wpAnyH_take (i := 7) (v := ?_) rfl (by kernel_rfl) (by kernel_rfl) (by kernel_rfl) (fun _ _ _ h => h) (Or.inl ⟨by rfl, ?_⟩) (by assumption) ?_
        rotate_left
        · (intro w' hSw; obtain ⟨hx0, hx1, hx2⟩ := hSw.xd.three; obtain ⟨hy0, hy1, hy2⟩ := hSw.xp.three; go_simp; try with_reducible rfl)
        try simp only [Act.put]
        refine wpAnyH_ready (rs := [9]) (by kernel_rfl) (by simp) ?_
        refine AllReadyH.cons rfl (fun K hK => ?_) (AllReadyH.nil)
        obtain ⟨n0, n1, n2⟩ := Box.three hN4
        have q0 := Box.open_ hN4 0
        have q1 := Box.open_ hN4 1
        have q2 := Box.open_ hN4 2
        have hR := res_store hN4 rfl hO4 hnx hCN
        go_simp
        refine hK.out _ _ (hHeld4.set3 hwC hCN _ _ _) (fun hHeld5 => ?_)
        clear hK K
        try simp only [Act.put]
        refine wpAnyH_take (i := 10) (v := ?_) rfl (by kernel_rfl) (by kernel_rfl) (by kernel_rfl) (fun _ _ _ h => h) (Or.inl ⟨by rfl, ?_⟩) (by assumption) ?_
        rotate_left
        · (intro w' hSw; obtain ⟨hx0, hx1, hx2⟩ := hSw.xd.three; obtain ⟨hy0, hy1, hy2⟩ := hSw.xp.three; go_simp; try with_reducible rfl)
        try simp only [Act.put]
        refine wpAnyH_done (by kernel_rfl) ?_ _
        go_simp
        go_wp2_with fail
        go_meet
        exact ⟨_, _, _, _, rfl, rfl, Lib.hid hHeld5, Lib.hid hR⟩
    · have hway : True := trivial
      have hN1 := box_new wd #[.slice none 0 0, .slice none 0 0, .slice none 0 0] 27
      have hnw1 := Below.new (w := wd) (.cells #[.slice none 0 0, .slice none 0 0, .slice none 0 0] 27)
      have hCN := Lw.hC hHeld
      go_simp
      refine hK.out _ _ (hHeld.on hnw1) (fun hHeld1 => ?_)
      clear hK K
      try simp only [Act.put]
      clear hnw1
      generalize wd.alloc (.cells #[.slice none 0 0, .slice none 0 0, .slice none 0 0] 27) = wa1 at hHeld1 hN1 ⊢
      refine wpAnyH_ready (rs := [1]) (by kernel_rfl) (by simp) ?_
      refine AllReadyH.cons rfl (fun K hK => ?_) (AllReadyH.nil)
      go_simp
      go_at_call 25
      refine (toDisk_any v0 v1 vl d _ (hHeld1.reads HD.out) HS.out).mono ?_
      rintro e wt2 ⟨b0, b1, bl, rfl, hbo, hb2⟩
      have hN2 := Box.below hN1 hb2 (Box.lt hN1)
      have hD2 := hbo.reads
      go_wp2_with fail
      refine hK.out _ _ (hHeld1.on hb2) (fun hHeld2 => ?_)
      clear hK K
      try simp only [Act.put]
      refine wpAnyH_ready (rs := [3]) (by kernel_rfl) (by simp) ?_
      refine AllReadyH.cons rfl (fun K hK => ?_) (AllReadyH.nil)
      go_simp
      go_at_call 18
      refine (toPtr_any p _).mono ?_
      rintro e wt3 ⟨rfl, hb3⟩
      have hN3 := Box.below hN2 hb3 (Box.lt hN2)
      have hD3 := DiskR.below hD2 hb3
      go_wp2_with fail
      refine hK.out _ _ (hHeld2.on hb3) (fun hHeld3 => ?_)
      clear hK K
      try simp only [Act.put]
      refine wpAnyH_ready (rs := [4]) (by kernel_rfl) (by simp) ?_
      refine AllReadyH.cons rfl (fun K hK => ?_) (AllReadyH.nil)
      go_simp
      go_at_call 30
      refine (implHeal_is b0 b1 bl d p a0 a1 _ hD3 HS.out (HE.out.below hHeld3.bl) r cd HR.out HCD.out).mono ?_
      rintro e wt4 ⟨s0, s1, sl, rfl, hso, hb4⟩
      have hN4 := Box.below hN3 hb4 (Box.lt hN3)
      have hD4 := DiskR.below hD3 hb4
      have hO4 := DiskOwn.base hso hHeld3.hC
      have hnx := DiskOwn.past hso (Box.lt hN3)
      obtain ⟨S0, m0, S1, m1, Sl_, ml, rfl, rfl, rfl⟩ := hso.forms
      go_wp2_with fail
      refine hK.out _ _ (hHeld3.on hb4) (fun hHeld4 => ?_)
      clear hK K
      try simp only [Act.put]
      refine wpAnyH_take (i := 5) (v := ?_) rfl (by kernel_rfl) (by kernel_rfl) (by kernel_rfl) (fun _ _ _ h => h) (Or.inl ⟨by rfl, ?_⟩) (by assumption) ?_
      rotate_left
      · (intro w' hSw; obtain ⟨hx0, hx1, hx2⟩ := hSw.xd.three; obtain ⟨hy0, hy1, hy2⟩ := hSw.xp.three; go_simp; try with_reducible rfl)
      try simp only [Act.put]
      refine wpAnyH_take (i := 6) (v := ?_) rfl (by kernel_rfl) (by kernel_rfl) (by kernel_rfl) (fun _ _ _ h => h) (Or.inl ⟨by rfl, ?_⟩) (by assumption) ?_
      rotate_left
      · (intro w' hSw; obtain ⟨hx0, hx1, hx2⟩ := hSw.xd.three; obtain ⟨hy0, hy1, hy2⟩ := hSw.xp.three; go_simp; try with_reducible rfl)
      try simp only [Act.put]
      refine wpAnyH_take (i := 7) (v := ?_) rfl (by kernel_rfl) (by kernel_rfl) (by kernel_rfl) (fun _ _ _ h => h) (Or.inl ⟨by rfl, ?_⟩) (by assumption) ?_
      rotate_left
      · (intro w' hSw; obtain ⟨hx0, hx1, hx2⟩ := hSw.xd.three; obtain ⟨hy0, hy1, hy2⟩ := hSw.xp.three; go_simp; try with_reducible rfl)
      try simp only [Act.put]
      refine wpAnyH_ready (rs := [9]) (by kernel_rfl) (by simp) ?_
      refine AllReadyH.cons rfl (fun K hK => ?_) (AllReadyH.nil)
      obtain ⟨n0, n1, n2⟩ := Box.three hN4
      have q0 := Box.open_ hN4 0
      have q1 := Box.open_ hN4 1
      have q2 := Box.open_ hN4 2
      have hR := res_store hN4 rfl hO4 hnx hCN
      go_simp
      refine hK.out _ _ (hHeld4.set3 hwC hCN _ _ _) (fun hHeld5 => ?_)
      clear hK K
      try simp only [Act.put]
      refine wpAnyH_take (i := 10) (v := ?_) rfl (by kernel_rfl) (by kernel_rfl) (by kernel_rfl) (fun _ _ _ h => h) (Or.inl ⟨by rfl, ?_⟩) (by assumption) ?_
      rotate_left
      · (intro w' hSw; obtain ⟨hx0, hx1, hx2⟩ := hSw.xd.three; obtain ⟨hy0, hy1, hy2⟩ := hSw.xp.three; go_simp; try with_reducible rfl)
      try simp only [Act.put]
      refine wpAnyH_done (by kernel_rfl) ?_ _
      go_simp
      go_wp2_with fail
      go_meet
      exact ⟨_, _, _, _, rfl, rfl, Lib.hid hHeld5, Lib.hid hR⟩
  case rest =>
  obtain ⟨N14, i0, i1, il, rfl, rfl, L16, RI⟩ := hcut
  revert L16 RI
  generalize wc = w16
  intro L16 RI
  obtain ⟨I0, j0, I1, j1, Il, jl, rfl, rfl, rfl⟩ := RI.out.own.forms
  have XA16 := Lib.hid (Box.below XA15.out L16.out.bs (Box.lt XA15.out))
  have DA16 := Lib.hid (DiskR.below DA15.out L16.out.bs)
  have XG16 := Lib.hid (Box.below XG15.out L16.out.bs (Box.lt XG15.out))
  have OG16 := Lib.hid (DiskOwn.below OG15.out L16.out.bs)
  clear XA15 DA15 XG15 OG15 L15
  obtain ⟨z0, z1, z2⟩ := RI.out.box.three
  obtain ⟨y0, y1, y2⟩ := XA16.out.three
  go_wp2_with fail
  refine (eqDisk_same _ _ _ _ _ _ r _ RI.out.own.reads DA16.out RS.out).mono ?_
  rintro e w17 ⟨rfl, hb⟩
  have XG17 := Lib.hid (Box.below XG16.out hb (Box.lt XG16.out))
  have OG17 := Lib.hid (DiskOwn.below OG16.out hb)
  have L17 := Lib.hid (L16.out.on hb)
  clear hb XG16 OG16 XA16 DA16 L16 RI z0 z1 z2 y0 y1 y2
  obtain ⟨z0, z1, z2⟩ := XG17.out.three
  go_wp2_with fail
  refine (heldDisk_any _ _ _ r.s0.length r.s1.length r.late.length 1 _ OG17.out.reads RS.out.n0 RS.out.n1 RS.out.nl (by omega) (by omega)).mono ?_
  rintro e w18 ⟨rfl, hb⟩
  rw [show 1 + r.s0.length + r.s1.length + 3 * r.late.length = N from HN.out]
  have L18 := Lib.hid (L17.out.on hb)
  clear hb L17 XG17 OG17 z0 z1 z2
  go_wp2
  go_ret
  exact ⟨rfl, L18.out.bl⟩
end Go.Proofs.YtfacbjldpenpjaaDoor
