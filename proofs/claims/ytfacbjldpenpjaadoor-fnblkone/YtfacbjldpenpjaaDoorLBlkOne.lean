/-
  The law on one block written, walked: what is asked of the draws is hDraw.
-/
import Derived.Test.YtfacbjldpenpjaaDoorOneMath
import Derived.Test.YtfacbjldpenpjaaDoorDrawAll
import Derived.Test.YtfacbjldpenpjaaDoorImDiskRead
import Derived.Deep.CutRange
import Derived.Deep.RegionHeld3
set_option maxRecDepth 100000
namespace Go.Proofs.YtfacbjldpenpjaaDoor
open Go.ChangeShapes Go.WideShapes Go.ChangeAt Go.RowKit Go.Proofs.Palim

theorem sl_none (w : World) : Sl w 1 (.slice none 0 0) ([] : List Int).length (ics []) := ⟨rfl, none, 0, rfl, Nat.le_refl _, Nat.zero_le _, Or.inl rfl⟩
theorem low_none (n : Nat) : Low n (.slice none 0 0) := fun b e => by simp [Value.ownBlock] at e

set_option maxHeartbeats 8000000 in
theorem lawBlkOne (A B : Option Addr) (n c m e : Nat) (a0 a1 : Addr) (w : World) (hA : Code w A n c) (hB : Code w B m e) (he : Errs w a0 a1)
    (hDraw : ∀ (A : Option Addr) (n c : Nat) (w : World), Code w A n c → Calls Tryd.prog 9 #[.slice A n c] w fun e w' => ∃ (d : DiskM) (at_ : Int) (text : ByteArray) (v0 v1 vl : Value), e = .returned (.tuple #[.agg #[v0, v1, vl], .int .i64 at_, .string text]) ∧ DiskOwn w' w.heap.size v0 v1 vl d ∧ DiskShort d ∧ text.size ≤ 1000 ∧ Below w.heap.size w w') :
    Calls Tryd.prog 3 #[.slice A n c, .slice B m e] w fun e w' => e = .returned (.bool true) ∧ Below w.heap.size w w' := by
  have hnot : ∀ (x : Bool) (w : World), (Op.unary .not (.bool x)).run Tryd.prog w = .ok (.bool (!x)) w := fun _ _ => rfl
  have HA := Lib.hid hA
  have HDR := Lib.hid hDraw
  have ha := hA.2.1
  have hb := hB.2.1
  have HE0 := Lib.hid he
  clear hA hB hDraw he
  unfold maxLen at ha hb
  by_cases hn : 1048576 < n
  · go_enter Tryd.func3, Tryd.ntmps3
    go_wp2
    go_ret
    exact ⟨rfl, Below.refl _ _⟩
  by_cases hm : 1048576 < m
  · go_enter Tryd.func3, Tryd.ntmps3
    go_wp2
    go_ret
    exact ⟨rfl, Below.refl _ _⟩
  go_enter Tryd.func3, Tryd.ntmps3
  go_wp2_with fail
  -- the draws
  refine (HDR.out A n c _ HA.out).mono ?_
  rintro e1 w1 ⟨d, at_, text, v0, v1, vl, rfl, ho, hs, ht, hb1⟩
  obtain ⟨A0, c0, A1, c1, Al, cl, rfl, rfl, rfl⟩ := ho.forms
  have HS := Lib.hid hs
  have hn1 := Below.new (w := w1) (.cells #[.slice A0 d.s0.length c0, .slice A1 d.s1.length c1, .slice Al d.late.length cl] 27)
  have XD := Lib.hid (boxed_new ho.reads 27)
  have B1 := Lib.hid (hb1.trans (hn1.mono hb1.size))
  have HE1 := Lib.hid ((HE0.out.below hb1).below hn1)
  clear ho hs hb1 hn1 HE0
  obtain ⟨x0, x1, x2⟩ := XD.out.box.three
  go_wp2_with fail
  -- the write
  have htx : text.size ≤ maxLen := by unfold maxLen; omega
  refine (implBlkWrite_any d at_ text _ _ _ _ (by omega) XD.out.reads HS.out).mono ?_
  rintro e3 w3 ⟨g0, g1, gl, rfl, ho, hb3⟩
  obtain ⟨G0, k0, G1, k1, Gl, kl, rfl, rfl, rfl⟩ := ho.forms
  have SX := Lib.hid (short_blk (at_ := at_) (text := text) (by omega) HS.out)
  have hn3 := Below.new (w := w3) (.cells #[.slice G0 (blkM d at_ text).s0.length k0, .slice G1 (blkM d at_ text).s1.length k1, .slice Gl (blkM d at_ text).late.length kl] 27)
  have XX := Lib.hid (boxed_new ho.reads 27)
  have XD3 := Lib.hid ((XD.out.below hb3).below hn3)
  have B3 := Lib.hid ((B1.out.trans (hb3.mono B1.out.size)).trans (hn3.mono (Nat.le_trans B1.out.size hb3.size)))
  have HE3 := Lib.hid ((HE1.out.below hb3).below hn3)
  clear ho hb3 hn3 XD B1 HE1 x0 x1 x2
  obtain ⟨xm, HXM⟩ : ∃ xm, Hid (blkM d at_ text = xm) := ⟨_, Lib.hid rfl⟩
  rw [HXM.out] at XX SX XD3 B3 HE3 ⊢
  obtain ⟨ok, HOK⟩ : ∃ ok, Hid (decide (CanBlk d at_ text) = ok) := ⟨_, Lib.hid rfl⟩
  rw [HOK.out]
  obtain ⟨x0, x1, x2⟩ := XD3.out.box.three
  go_wp2_with fail
  -- what is told
  refine (specBlkWrite_any _ _ _ d at_ text _ XD3.out.reads HS.out (by omega)).mono ?_
  rintro e5 w5 ⟨t0, t1, tl, rfl, ho, hb5⟩
  obtain ⟨T0, m0, T1, m1, Tl, ml, rfl, rfl, rfl⟩ := ho.forms
  rw [HOK.out, HXM.out]
  have hn5 := Below.new (w := w5) (.cells #[.slice T0 xm.s0.length m0, .slice T1 xm.s1.length m1, .slice Tl xm.late.length ml] 27)
  have XX5 := Lib.hid ((XX.out.below hb5).below hn5)
  have XD5 := Lib.hid ((XD3.out.below hb5).below hn5)
  have B5 := Lib.hid ((B3.out.trans (hb5.mono B3.out.size)).trans (hn5.mono (Nat.le_trans B3.out.size hb5.size)))
  have HE5 := Lib.hid ((HE3.out.below hb5).below hn5)
  clear ho hb5 hn5 XD3 B3 XX HE3 x0 x1 x2
  cases ok with
  | false =>
    go_wp2
    go_ret
    exact ⟨rfl, B5.out⟩
  | true =>
    have HC := Lib.hid (show CanBlk d at_ text from of_decide_eq_true HOK.out)
    have hlen := HC.out.1.1
    have hlen2 := HC.out.1.2.1
    clear HOK
    go_upto_region 8 with fail
    generalize w5.alloc (.cells #[.slice T0 xm.s0.length m0, .slice T1 xm.s1.length m1, .slice Tl xm.late.length ml] 27) = W5 at XX5 XD5 B5 HE5 ⊢
    generalize w3.heap.size = Y at XX5 XD5 ⊢
    generalize w1.heap.size = X at XX5 XD5 ⊢
    obtain ⟨nd, HND⟩ : ∃ nd, Hid (d.s0.length = nd) := ⟨_, Lib.hid rfl⟩
    rw [HND.out] at XD5 hlen hlen2 ⊢
    go_wp2_with fail
    go_loopw [12] (fun i wr => ∃ j : Nat, 1 ≤ j ∧ j ≤ nd ∧ i = .int .i64 (j : Int) ∧ Hid (Boxed wr X X (.slice A0 nd c0) (.slice A1 d.s1.length c1) (.slice Al d.late.length cl) d) ∧ Hid (Boxed wr Y Y (.slice G0 xm.s0.length k0) (.slice G1 xm.s1.length k1) (.slice Gl xm.late.length kl) xm) ∧ Hid (Errs wr a0 a1) ∧ Hid (Below w.heap.size w wr)) (fun i _ => nd - (intOf i).toNat)
    case atStart => exact ⟨1, by omega, by omega, rfl, XD5, XX5, HE5, B5⟩
    case round =>
      clear XD5 XX5 HE5 B5
      obtain ⟨j, hj0, hj, rfl, XD, XX, HE, BB⟩ := hrel
      by_cases hlt : j < nd
      · have hj1 : (j : Int) < (nd : Int) := by omega
        obtain ⟨x0, x1, x2⟩ := XD.out.box.three
        go_wp2_with fail
        refine (ImplDiskRead_any d 0 (j : Int) _ _ _ _ XD.out.reads HS.out).mono ?_
        rintro e6 w6 ⟨rfl, hb⟩
        have XD6 := Lib.hid (XD.out.below hb)
        have XX6 := Lib.hid (XX.out.below hb)
        have HE6 := Lib.hid (HE.out.below hb)
        have B6 := Lib.hid (BB.out.trans (hb.mono BB.out.size))
        have hrs := readOut_size d 0 (j : Int)
        generalize readOut d 0 (j : Int) = s at hrs ⊢
        generalize decide (CanRead d 0 (j : Int)) = bs
        clear hb XD XX HE BB x0 x1 x2
        go_wp2_with fail
        refine (implBlkTo_any (j : Int) s _ _ (by unfold maxLen; omega)).mono ?_
        rintro e7 w7 ⟨rfl, hb⟩
        generalize hp : toM (j : Int) s _ = p
        have HO := Lib.hid (show (j : Int) ≠ at_ → blkText xm p = blkText d p ∧ blkCode xm p = blkCode d p from fun hne => by rw [← hp, ← HXM.out]; exact one_other HC.out _ _ _ hne)
        clear hp
        have hn7 := Below.new (w := w7) (.cells #[.int .i64 p.at_, .int .i64 p.sum, .int .i64 p.birth] 35)
        have XP7 := Lib.hid (box_new w7 #[.int .i64 p.at_, .int .i64 p.sum, .int .i64 p.birth] 35)
        have XD7 := Lib.hid ((XD6.out.below hb).below hn7)
        have XX7 := Lib.hid ((XX6.out.below hb).below hn7)
        have HE7 := Lib.hid ((HE6.out.below hb).below hn7)
        have B7 := Lib.hid ((B6.out.trans (hb.mono B6.out.size)).trans (hn7.mono (Nat.le_trans B6.out.size hb.size)))
        clear hb hn7 XD6 XX6 HE6 B6
        go_upto_region 13 with fail
        generalize w7.alloc (.cells #[.int .i64 p.at_, .int .i64 p.sum, .int .i64 p.birth] 35) = W7 at XP7 XD7 XX7 HE7 B7 ⊢
        generalize w7.heap.size = Q at XP7 ⊢
        obtain ⟨x0, x1, x2⟩ := XD7.out.box.three
        obtain ⟨y0, y1, y2⟩ := XP7.out.three
        go_wp2_with fail
        refine (implBlkRead_any _ _ _ d p a0 a1 _ XD7.out.reads HS.out HE7.out).mono ?_
        rintro e8 w8 ⟨rfl, hb⟩
        have XD8 := Lib.hid (XD7.out.below hb)
        have XX8 := Lib.hid (XX7.out.below hb)
        have XP8 := Lib.hid (XP7.out.below hb XP7.out.lt)
        have HE8 := Lib.hid (HE7.out.below hb)
        have B8 := Lib.hid (B7.out.trans (hb.mono B7.out.size))
        obtain ⟨ta, HTA⟩ : ∃ ta, Hid (blkText d p = ta) := ⟨_, Lib.hid rfl⟩
        obtain ⟨ca, HCA⟩ : ∃ ca, Hid (blkCode d p = ca) := ⟨_, Lib.hid rfl⟩
        rw [HTA.out, HCA.out]
        clear hb XD7 XX7 XP7 HE7 B7 x0 x1 x2 y0 y1 y2
        obtain ⟨x0, x1, x2⟩ := XX8.out.box.three
        obtain ⟨y0, y1, y2⟩ := XP8.out.three
        go_wp2_with fail
        refine (implBlkRead_any _ _ _ xm p a0 a1 _ XX8.out.reads SX.out HE8.out).mono ?_
        rintro e9 w9 ⟨rfl, hb⟩
        have XD9 := Lib.hid (XD8.out.below hb)
        have XX9 := Lib.hid (XX8.out.below hb)
        have HE9 := Lib.hid (HE8.out.below hb)
        have B9 := Lib.hid (B8.out.trans (hb.mono B8.out.size))
        clear hb XD8 XX8 XP8 HE8 B8 x0 x1 x2 y0 y1 y2
        by_cases hat : (j : Int) = at_
        · have hq : ((j : Int) == at_) = true := by simpa using hat
          generalize blkText xm p = tb
          generalize blkCode xm p = cb
          have HAT := Lib.hid hat
          clear hat
          go_wp2
          go_roundw
          case rel => exact ⟨j + 1, by omega, by omega, by go_num, XD9, XX9, HE9, B9⟩
          case measure => simp [intOf]; omega
        · have hq : ((j : Int) == at_) = false := by simpa using hat
          rw [(HO.out hat).1, (HO.out hat).2, HTA.out, HCA.out]
          go_wp2
          go_roundw
          case rel => exact ⟨j + 1, by omega, by omega, by go_num, XD9, XX9, HE9, B9⟩
          case measure => simp [intOf]; omega
      · have hj1 : ¬ (j : Int) < (nd : Int) := by omega
        obtain ⟨x0, x1, x2⟩ := XD.out.box.three
        go_wp2_with fail
        refine (implBlkTo_any at_ text 1 _ htx).mono ?_
        rintro e6 w6 ⟨rfl, hb⟩
        have HT := Lib.hid (show 1 ≤ at_ → blkText (fallM (flushM xm) []) (toM at_ text 1) = text ∧ blkCode (fallM (flushM xm) []) (toM at_ text 1) = 0 from fun h1 => by rw [← HXM.out]; exact one_here HC.out h1)
        generalize toM at_ text 1 = p at HT ⊢
        have hn7 := Below.new (w := w6) (.cells #[.int .i64 p.at_, .int .i64 p.sum, .int .i64 p.birth] 35)
        have XP7 := Lib.hid (box_new w6 #[.int .i64 p.at_, .int .i64 p.sum, .int .i64 p.birth] 35)
        have XX7 := Lib.hid ((XX.out.below hb).below hn7)
        have HE7 := Lib.hid ((HE.out.below hb).below hn7)
        have B7 := Lib.hid ((BB.out.trans (hb.mono BB.out.size)).trans (hn7.mono (Nat.le_trans BB.out.size hb.size)))
        clear hb hn7 XD XX HE BB x0 x1 x2
        go_upto_region 18 with fail
        revert XP7 XX7 HE7 B7
        generalize w6.alloc (.cells #[.int .i64 p.at_, .int .i64 p.sum, .int .i64 p.birth] 35) = wz
        generalize w6.heap.size = Q
        intro XP XX HE BB
        by_cases hsm : at_ < 1
        · clear HT
          have hB0 := Lib.hid (BB.out.trans ((Below.drew (Below.refl _ wz)).mono BB.out.size))
          have hX0 := Boxed.below XX.out (Below.drew (Below.refl _ wz))
          have hP0 := Box.below XP.out (Below.drew (Below.refl _ wz)) XP.out.lt
          have hE0 := HE.out.drew
          refine wp_region_held_drew (S := fun w' => Box w' Y [.slice G0 xm.s0.length k0, .slice G1 xm.s1.length k1, .slice Gl xm.late.length kl] ∧ Box w' Q [.int .i64 p.at_, .int .i64 p.sum, .int .i64 p.birth]) (by kernel_rfl) ⟨hX0.box, hP0⟩ (fun hHeld => ?_)
          generalize wz.drew = wd at hHeld hX0 hP0 hE0 hB0 ⊢
          refine wpAnyH_take (i := 0) (v := ?_) rfl (by kernel_rfl) (by kernel_rfl) (by kernel_rfl) (fun _ _ _ h => h) (Or.inl ⟨by rfl, ?_⟩) (by assumption) ?_
          rotate_left
          · (intro w' hSw; obtain ⟨hx0, hx1, hx2⟩ := Box.three hSw.1; obtain ⟨hy0, hy1, hy2⟩ := Box.three hSw.2; go_simp; try with_reducible rfl)
          try simp only [Act.put]
          refine wpAnyH_take (i := 3) (v := ?_) rfl (by kernel_rfl) (by kernel_rfl) (by kernel_rfl) (fun _ _ _ h => h) (Or.inl ⟨by rfl, ?_⟩) (by assumption) ?_
          rotate_left
          · (intro w' hSw; obtain ⟨hx0, hx1, hx2⟩ := Box.three hSw.1; obtain ⟨hy0, hy1, hy2⟩ := Box.three hSw.2; go_simp; try with_reducible rfl)
          try simp only [Act.put]
          refine wpAnyH_ready (rs := [1]) (by kernel_rfl) (by simp) ?_
          refine AllReadyH.cons rfl (fun K hK => ?_) (AllReadyH.nil)
          go_simp
          go_at_call 16
          refine (ImplDiskFlush_any xm _ _ _ _ hX0.reads SX.out).mono ?_
          rintro e wt1 ⟨s0, s1, sl, rfl, hso, hb1⟩
          have hX1 := Boxed.below hX0 hb1
          have hP1 := Box.below hP0 hb1 hP0.lt
          have hE1 := Errs.below hE0 hb1
          have hB1 := Lib.hid (hB0.out.trans (hb1.mono hB0.out.size))
          obtain ⟨S0, m0, S1, m1, Sl_, ml, rfl, rfl, rfl⟩ := hso.forms
          go_wp2_with fail
          refine hK.out _ _ ⟨hX1.box, hP1⟩ (fun hHeld1 => ?_)
          clear hK K
          try simp only [Act.put]
          refine wpAnyH_ready (rs := [2]) (by kernel_rfl) (by simp) ?_
          refine AllReadyH.cons rfl (fun K hK => ?_) (AllReadyH.nil)
          go_simp
          go_at_call 15
          refine (ImplDiskFall_any (flushM xm) [] _ _ _ _ _ hso.reads (short_flush SX.out) (sl_none _) (low_none _) (by simp)).mono ?_
          rintro e wt2 ⟨f0, f1, fl, rfl, hfo, hb2⟩
          have hX2 := Boxed.below hX1 hb2
          have hP2 := Box.below hP1 hb2 hP1.lt
          have hE2 := Errs.below hE1 hb2
          have hB2 := Lib.hid (hB1.out.trans (hb2.mono hB1.out.size))
          obtain ⟨F0, j0, F1, j1, Fl, jl, rfl, rfl, rfl⟩ := hfo.forms
          go_wp2_with fail
          refine hK.out _ _ ⟨hX2.box, hP2⟩ (fun hHeld2 => ?_)
          clear hK K
          try simp only [Act.put]
          refine wpAnyH_ready (rs := [4]) (by kernel_rfl) (by simp) ?_
          refine AllReadyH.cons rfl (fun K hK => ?_) (AllReadyH.nil)
          go_simp
          go_at_call 14
          refine (implBlkRead_any _ _ _ (fallM (flushM xm) []) p a0 a1 _ hfo.reads (short_fall (short_flush SX.out)) hE2).mono ?_
          rintro e wt3 ⟨rfl, hb3⟩
          have hX3 := Boxed.below hX2 hb3
          have hP3 := Box.below hP2 hb3 hP2.lt
          have hE3 := Errs.below hE2 hb3
          have hB3 := Lib.hid (hB2.out.trans (hb3.mono hB2.out.size))
          generalize blkText (fallM (flushM xm) []) p = tz
          generalize blkCode (fallM (flushM xm) []) p = cz
          go_wp2_with fail
          refine hK.out _ _ ⟨hX3.box, hP3⟩ (fun hHeld3 => ?_)
          clear hK K
          try simp only [Act.put]
          refine wpAnyH_take (i := 5) (v := ?_) rfl (by kernel_rfl) (by kernel_rfl) (by kernel_rfl) (fun _ _ _ h => h) (Or.inl ⟨by rfl, ?_⟩) (by assumption) ?_
          rotate_left
          · (intro w' hSw; obtain ⟨hx0, hx1, hx2⟩ := Box.three hSw.1; obtain ⟨hy0, hy1, hy2⟩ := Box.three hSw.2; go_simp; try with_reducible rfl)
          try simp only [Act.put]
          refine wpAnyH_take (i := 6) (v := ?_) rfl (by kernel_rfl) (by kernel_rfl) (by kernel_rfl) (fun _ _ _ h => h) (Or.inl ⟨by rfl, ?_⟩) (by assumption) ?_
          rotate_left
          · (intro w' hSw; obtain ⟨hx0, hx1, hx2⟩ := Box.three hSw.1; obtain ⟨hy0, hy1, hy2⟩ := Box.three hSw.2; go_simp; try with_reducible rfl)
          try simp only [Act.put]
          refine wpAnyH_take (i := 7) (v := ?_) rfl (by kernel_rfl) (by kernel_rfl) (by kernel_rfl) (fun _ _ _ h => h) (Or.inl ⟨by rfl, ?_⟩) (by assumption) ?_
          rotate_left
          · (intro w' hSw; obtain ⟨hx0, hx1, hx2⟩ := Box.three hSw.1; obtain ⟨hy0, hy1, hy2⟩ := Box.three hSw.2; go_simp; try with_reducible rfl)
          try simp only [Act.put]
          refine wpAnyH_take (i := 8) (v := ?_) rfl (by kernel_rfl) (by kernel_rfl) (by kernel_rfl) (fun _ _ _ h => h) (Or.inl ⟨by rfl, ?_⟩) (by assumption) ?_
          rotate_left
          · (intro w' hSw; obtain ⟨hx0, hx1, hx2⟩ := Box.three hSw.1; obtain ⟨hy0, hy1, hy2⟩ := Box.three hSw.2; go_simp; try with_reducible rfl)
          try simp only [Act.put]
          refine wpAnyH_take (i := 9) (v := ?_) rfl (by kernel_rfl) (by kernel_rfl) (by kernel_rfl) (fun _ _ _ h => h) (Or.inl ⟨by rfl, ?_⟩) (by assumption) ?_
          rotate_left
          · (intro w' hSw; obtain ⟨hx0, hx1, hx2⟩ := Box.three hSw.1; obtain ⟨hy0, hy1, hy2⟩ := Box.three hSw.2; go_simp; try with_reducible rfl)
          try simp only [Act.put]
          refine wpAnyH_done (by kernel_rfl) ?_ _
          go_simp
          go_wp2
          go_ret
          exact ⟨rfl, hB3.out⟩
        · have HT1 := Lib.hid (HT.out (by omega)).1
          have HT2 := Lib.hid (HT.out (by omega)).2
          clear HT
          have hB0 := Lib.hid (BB.out.trans ((Below.drew (Below.refl _ wz)).mono BB.out.size))
          have hX0 := Boxed.below XX.out (Below.drew (Below.refl _ wz))
          have hP0 := Box.below XP.out (Below.drew (Below.refl _ wz)) XP.out.lt
          have hE0 := HE.out.drew
          refine wp_region_held_drew (S := fun w' => Box w' Y [.slice G0 xm.s0.length k0, .slice G1 xm.s1.length k1, .slice Gl xm.late.length kl] ∧ Box w' Q [.int .i64 p.at_, .int .i64 p.sum, .int .i64 p.birth]) (by kernel_rfl) ⟨hX0.box, hP0⟩ (fun hHeld => ?_)
          generalize wz.drew = wd at hHeld hX0 hP0 hE0 hB0 ⊢
          refine wpAnyH_take (i := 0) (v := ?_) rfl (by kernel_rfl) (by kernel_rfl) (by kernel_rfl) (fun _ _ _ h => h) (Or.inl ⟨by rfl, ?_⟩) (by assumption) ?_
          rotate_left
          · (intro w' hSw; obtain ⟨hx0, hx1, hx2⟩ := Box.three hSw.1; obtain ⟨hy0, hy1, hy2⟩ := Box.three hSw.2; go_simp; try with_reducible rfl)
          try simp only [Act.put]
          refine wpAnyH_take (i := 3) (v := ?_) rfl (by kernel_rfl) (by kernel_rfl) (by kernel_rfl) (fun _ _ _ h => h) (Or.inl ⟨by rfl, ?_⟩) (by assumption) ?_
          rotate_left
          · (intro w' hSw; obtain ⟨hx0, hx1, hx2⟩ := Box.three hSw.1; obtain ⟨hy0, hy1, hy2⟩ := Box.three hSw.2; go_simp; try with_reducible rfl)
          try simp only [Act.put]
          refine wpAnyH_ready (rs := [1]) (by kernel_rfl) (by simp) ?_
          refine AllReadyH.cons rfl (fun K hK => ?_) (AllReadyH.nil)
          go_simp
          go_at_call 16
          refine (ImplDiskFlush_any xm _ _ _ _ hX0.reads SX.out).mono ?_
          rintro e wt1 ⟨s0, s1, sl, rfl, hso, hb1⟩
          have hX1 := Boxed.below hX0 hb1
          have hP1 := Box.below hP0 hb1 hP0.lt
          have hE1 := Errs.below hE0 hb1
          have hB1 := Lib.hid (hB0.out.trans (hb1.mono hB0.out.size))
          obtain ⟨S0, m0, S1, m1, Sl_, ml, rfl, rfl, rfl⟩ := hso.forms
          go_wp2_with fail
          refine hK.out _ _ ⟨hX1.box, hP1⟩ (fun hHeld1 => ?_)
          clear hK K
          try simp only [Act.put]
          refine wpAnyH_ready (rs := [2]) (by kernel_rfl) (by simp) ?_
          refine AllReadyH.cons rfl (fun K hK => ?_) (AllReadyH.nil)
          go_simp
          go_at_call 15
          refine (ImplDiskFall_any (flushM xm) [] _ _ _ _ _ hso.reads (short_flush SX.out) (sl_none _) (low_none _) (by simp)).mono ?_
          rintro e wt2 ⟨f0, f1, fl, rfl, hfo, hb2⟩
          have hX2 := Boxed.below hX1 hb2
          have hP2 := Box.below hP1 hb2 hP1.lt
          have hE2 := Errs.below hE1 hb2
          have hB2 := Lib.hid (hB1.out.trans (hb2.mono hB1.out.size))
          obtain ⟨F0, j0, F1, j1, Fl, jl, rfl, rfl, rfl⟩ := hfo.forms
          go_wp2_with fail
          refine hK.out _ _ ⟨hX2.box, hP2⟩ (fun hHeld2 => ?_)
          clear hK K
          try simp only [Act.put]
          refine wpAnyH_ready (rs := [4]) (by kernel_rfl) (by simp) ?_
          refine AllReadyH.cons rfl (fun K hK => ?_) (AllReadyH.nil)
          go_simp
          go_at_call 14
          refine (implBlkRead_any _ _ _ (fallM (flushM xm) []) p a0 a1 _ hfo.reads (short_fall (short_flush SX.out)) hE2).mono ?_
          rintro e wt3 ⟨rfl, hb3⟩
          have hX3 := Boxed.below hX2 hb3
          have hP3 := Box.below hP2 hb3 hP2.lt
          have hE3 := Errs.below hE2 hb3
          have hB3 := Lib.hid (hB2.out.trans (hb3.mono hB2.out.size))
          rw [HT1.out, HT2.out]
          go_wp2_with fail
          refine hK.out _ _ ⟨hX3.box, hP3⟩ (fun hHeld3 => ?_)
          clear hK K
          try simp only [Act.put]
          refine wpAnyH_take (i := 5) (v := ?_) rfl (by kernel_rfl) (by kernel_rfl) (by kernel_rfl) (fun _ _ _ h => h) (Or.inl ⟨by rfl, ?_⟩) (by assumption) ?_
          rotate_left
          · (intro w' hSw; obtain ⟨hx0, hx1, hx2⟩ := Box.three hSw.1; obtain ⟨hy0, hy1, hy2⟩ := Box.three hSw.2; go_simp; try with_reducible rfl)
          try simp only [Act.put]
          refine wpAnyH_take (i := 6) (v := ?_) rfl (by kernel_rfl) (by kernel_rfl) (by kernel_rfl) (fun _ _ _ h => h) (Or.inl ⟨by rfl, ?_⟩) (by assumption) ?_
          rotate_left
          · (intro w' hSw; obtain ⟨hx0, hx1, hx2⟩ := Box.three hSw.1; obtain ⟨hy0, hy1, hy2⟩ := Box.three hSw.2; go_simp; try with_reducible rfl)
          try simp only [Act.put]
          refine wpAnyH_take (i := 7) (v := ?_) rfl (by kernel_rfl) (by kernel_rfl) (by kernel_rfl) (fun _ _ _ h => h) (Or.inl ⟨by rfl, ?_⟩) (by assumption) ?_
          rotate_left
          · (intro w' hSw; obtain ⟨hx0, hx1, hx2⟩ := Box.three hSw.1; obtain ⟨hy0, hy1, hy2⟩ := Box.three hSw.2; go_simp; try with_reducible rfl)
          try simp only [Act.put]
          refine wpAnyH_take (i := 8) (v := ?_) rfl (by kernel_rfl) (by kernel_rfl) (by kernel_rfl) (fun _ _ _ h => h) (Or.inl ⟨by rfl, ?_⟩) (by assumption) ?_
          rotate_left
          · (intro w' hSw; obtain ⟨hx0, hx1, hx2⟩ := Box.three hSw.1; obtain ⟨hy0, hy1, hy2⟩ := Box.three hSw.2; go_simp; try with_reducible rfl)
          try simp only [Act.put]
          refine wpAnyH_take (i := 9) (v := ?_) rfl (by kernel_rfl) (by kernel_rfl) (by kernel_rfl) (fun _ _ _ h => h) (Or.inl ⟨by rfl, ?_⟩) (by assumption) ?_
          rotate_left
          · (intro w' hSw; obtain ⟨hx0, hx1, hx2⟩ := Box.three hSw.1; obtain ⟨hy0, hy1, hy2⟩ := Box.three hSw.2; go_simp; try with_reducible rfl)
          try simp only [Act.put]
          refine wpAnyH_done (by kernel_rfl) ?_ _
          go_simp
          go_wp2
          go_ret
          exact ⟨rfl, hB3.out⟩
end Go.Proofs.YtfacbjldpenpjaaDoor
