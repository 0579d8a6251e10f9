/-
  A block healed: impl's BlkHeal.
-/
import Derived.Test.YtfacbjldpenpjaaDoorBlkH
set_option maxRecDepth 100000
namespace Go.Proofs.YtfacbjldpenpjaaDoor
open Go.ChangeShapes Go.WideShapes Go.ChangeAt Go.RowKit Go.Proofs.Palim

set_option maxHeartbeats 2000000 in
theorem implBlkHeal_any (v0 v1 vl : Value) (d : DiskM) (p : PtrM) (a0 a1 : Addr) (w : World) (h : DiskR w v0 v1 vl d) (hs : DiskShort d) (he : Errs w a0 a1) :
    Calls Tryd.prog 30 #[.agg #[v0, v1, vl], pv p] w (NewDiskC w (healD d p) (healC d p)) := by
  have hnot : ∀ (x : Bool) (w : World), (Op.unary .not (.bool x)).run Tryd.prog w = .ok (.bool (!x)) w := fun _ _ => rfl
  have htx : (blkText d p).size ≤ maxLen := by have := blkText_size d p; unfold maxLen; omega
  obtain ⟨_, A0, c0, rfl, _⟩ := h.r0
  obtain ⟨_, A1, c1, rfl, _⟩ := h.r1
  obtain ⟨_, Al, cl, rfl, _⟩ := h.rl
  have HS := Lib.hid hs
  obtain ⟨hA, hP, hR, hsz, hB⟩ := box3 w #[.slice A0 d.s0.length c0, .slice A1 d.s1.length c1, .slice Al d.late.length cl] #[.int .i64 p.at_, .int .i64 p.sum, .int .i64 p.birth] #[.slice none 0 0, .slice none 0 0, .slice none 0 0] 27 35 27
  have RD := Lib.hid (h.below hB)
  have XD := Lib.hid hA
  have XP := Lib.hid hP
  have XR := Lib.hid hR
  have B0 := Lib.hid hB
  have HE0 := Lib.hid (he.below hB)
  clear hA hP hR hB h hs he
  by_cases hok : DiskOkM d
  · have HK := Lib.hid hok
    go_enter Tryd.func30, Tryd.ntmps30
    go_wp2_with fail
    refine (ImOk_is _ _ _ d _ RD.out HS.out true (decide_eq_true hok)).mono ?_
    rintro e w1 ⟨rfl, hb⟩
    have RD1 := Lib.hid (RD.out.below hb)
    have XD1 := Lib.hid (XD.out.below hb XD.out.lt)
    have XP1 := Lib.hid (XP.out.below hb XP.out.lt)
    have XR1 := Lib.hid (XR.out.below hb XR.out.lt)
    have B1 := Lib.hid (B0.out.trans (hb.mono B0.out.size))
    have hs1 : w.heap.size + 1 + 1 + 1 ≤ w1.heap.size := by have := hb.size; omega
    have HE1 := Lib.hid (HE0.out.below hb)
    clear hb RD XD XP XR B0 hsz hok HE0
    obtain ⟨x0, x1, x2⟩ := XD1.out.three
    obtain ⟨y0, y1, y2⟩ := XP1.out.three
    obtain ⟨tx, HTX⟩ : ∃ tx, Hid (blkText d p = tx) := ⟨_, Lib.hid rfl⟩
    obtain ⟨cd, HCD⟩ : ∃ cd, Hid (blkCode d p = cd) := ⟨_, Lib.hid rfl⟩
    rw [HTX.out] at htx
    go_wp2_with fail
    refine (implRead_is _ _ _ d p a0 a1 _ RD1.out HS.out HE1.out tx cd HTX.out HCD.out).mono ?_
    rintro e w2 ⟨rfl, hb⟩
    have RD2 := Lib.hid (RD1.out.below hb)
    have XD2 := Lib.hid (XD1.out.below hb XD1.out.lt)
    have XP2 := Lib.hid (XP1.out.below hb XP1.out.lt)
    have XR2 := Lib.hid (XR1.out.below hb XR1.out.lt)
    have B2 := Lib.hid (B1.out.trans (hb.mono B1.out.size))
    have HE2 := Lib.hid (HE1.out.below hb)
    have hs2 : w.heap.size + 1 + 1 + 1 ≤ w2.heap.size := Nat.le_trans hs1 hb.size
    clear hb RD1 XD1 XP1 XR1 B1 HE1 hs1 x0 x1 x2 y0 y1 y2
    obtain ⟨x0, x1, x2⟩ := XD2.out.three
    obtain ⟨y0, y1, y2⟩ := XP2.out.three
    by_cases hcd : cd = 0
    · have HQ0 := Lib.hid (show HasB d p 0 ∨ HasB d p 1 from by
        rw [← HCD.out] at hcd
        unfold blkCode at hcd
        split at hcd
        · omega
        · split at hcd
          · assumption
          · omega)
      have HCD0 := Lib.hid (HCD.out.trans hcd)
      subst hcd
      go_wp2_with fail
      refine wp_loop_rounds 3 ?_
      rw [rounds_succ]
      go_wp2_with fail
      by_cases hq : HasB d p 0
      · have HQ := Lib.hid hq
        refine (implSide_is _ _ _ d p 0 a0 a1 _ RD2.out HS.out HE2.out true (decide_eq_true hq)).mono ?_
        rintro e w3 ⟨rfl, hb⟩
        clear hq
        have RD3 := Lib.hid (RD2.out.below hb)
        have XD3 := Lib.hid (XD2.out.below hb XD2.out.lt)
        have XP3 := Lib.hid (XP2.out.below hb XP2.out.lt)
        have XR3 := Lib.hid (XR2.out.below hb XR2.out.lt)
        have B3 := Lib.hid (B2.out.trans (hb.mono B2.out.size))
        have HE3 := Lib.hid (HE2.out.below hb)
        have hs3 : w.heap.size + 1 + 1 + 1 ≤ w3.heap.size := Nat.le_trans hs2 hb.size
        clear hb RD2 XD2 XP2 XR2 B2 HE2 hs2 x0 x1 x2 y0 y1 y2
        obtain ⟨x0, x1, x2⟩ := XD3.out.three
        obtain ⟨y0, y1, y2⟩ := XP3.out.three
        go_wp2_with fail
        rw [rounds_succ]
        go_wp2_with fail
        by_cases hr : HasB d p 1
        · have HF := Lib.hid (show healD d p = d from by unfold healD; rw [if_neg (not_not_intro HK.out), if_neg (fun h => h.2 hr), if_neg (fun h => h.1 HQ.out)])
          have HF2 := Lib.hid (show healC d p = 0 from by unfold healC; rw [if_neg (not_not_intro HK.out), if_neg (fun h => h.2 hr), if_neg (fun h => h.1 HQ.out), HCD0.out])
          refine (implSide_is _ _ _ d p 1 a0 a1 _ RD3.out HS.out HE3.out true (decide_eq_true hr)).mono ?_
          rintro e w4 ⟨rfl, hb⟩
          clear hr
          have RD4 := Lib.hid (RD3.out.below hb)
          have XD4 := Lib.hid (XD3.out.below hb XD3.out.lt)
          have XP4 := Lib.hid (XP3.out.below hb XP3.out.lt)
          have XR4 := Lib.hid (XR3.out.below hb XR3.out.lt)
          have B4 := Lib.hid (B3.out.trans (hb.mono B3.out.size))
          have HE4 := Lib.hid (HE3.out.below hb)
          have hs4 : w.heap.size + 1 + 1 + 1 ≤ w4.heap.size := Nat.le_trans hs3 hb.size
          clear hb RD3 XD3 XP3 XR3 B3 HE3 hs3 x0 x1 x2 y0 y1 y2
          obtain ⟨x0, x1, x2⟩ := XD4.out.three
          obtain ⟨y0, y1, y2⟩ := XP4.out.three
          go_wp2_with fail
          rw [rounds_succ]
          go_wp2_with fail
          refine (diskCopy_any _ _ _ d _ RD4.out HS.out).mono ?_
          rintro e wc ⟨u0, u1, ul, rfl, ho, hb⟩
          obtain ⟨U0, e0, U1, e1, Ul, el, rfl, rfl, rfl⟩ := ho.forms
          have XRc := Lib.hid (XR4.out.below hb XR4.out.lt)
          have Bc := Lib.hid (B4.out.trans (hb.mono B4.out.size))
          have HOc := Lib.hid (ho.base (base' := w.heap.size + 1 + 1 + 1) hs4)
          clear ho hb XR4 B4 x0 x1 x2 y0 y1 y2 XD4 RD4 XP4
          go_wp2_with fail
          refine (disk_any _ _ _ _ _ _ _ _ _ _).mono ?_
          rintro e wd ⟨rfl, hb⟩
          have XRd := Lib.hid (XRc.out.below hb XRc.out.lt)
          have Bd := Lib.hid (Bc.out.trans (hb.mono Bc.out.size))
          have HOd := Lib.hid (HOc.out.below hb)
          clear hb XRc Bc HOc
          obtain ⟨r0, r1, r2⟩ := XRd.out.three
          have f0 := XRd.out.open_ 0
          have f1 := XRd.out.open_ 1
          have f2 := XRd.out.open_ 2
          have HQ := Lib.hid (laid_at XRd.out HOd.out Bd.out (by omega))
          have HQ1 := Lib.hid (XRd.out.set 0 (.slice U0 d.s0.length e0))
          have HQ2 := Lib.hid (HQ1.out.set 1 (.slice U1 d.s1.length e1))
          have HQ3 := Lib.hid (HQ2.out.set 2 (.slice Ul d.late.length el))
          go_wp2
          refine bodyPost_ret (v := .tuple #[.agg #[.slice U0 d.s0.length e0, .slice U1 d.s1.length e1, .slice Ul d.late.length el], .int .i64 0]) (by simp [results, Tryd.results30, go_sem, HQ1.out.cell 0 rfl, HQ2.out.cell 1 rfl, HQ3.out.cell 2 rfl]) rfl ?_
          rw [HF.out, HF2.out]
          exact ⟨_, _, _, rfl, HQ.out.1, HQ.out.2⟩
        · have HR := Lib.hid hr
          refine (implSide_is _ _ _ d p 1 a0 a1 _ RD3.out HS.out HE3.out false (decide_eq_false hr)).mono ?_
          rintro e w4 ⟨rfl, hb⟩
          clear hr
          have RD4 := Lib.hid (RD3.out.below hb)
          have XD4 := Lib.hid (XD3.out.below hb XD3.out.lt)
          have XP4 := Lib.hid (XP3.out.below hb XP3.out.lt)
          have XR4 := Lib.hid (XR3.out.below hb XR3.out.lt)
          have B4 := Lib.hid (B3.out.trans (hb.mono B3.out.size))
          have HE4 := Lib.hid (HE3.out.below hb)
          have hs4 : w.heap.size + 1 + 1 + 1 ≤ w4.heap.size := Nat.le_trans hs3 hb.size
          clear hb RD3 XD3 XP3 XR3 B3 HE3 hs3 x0 x1 x2 y0 y1 y2
          obtain ⟨x0, x1, x2⟩ := XD4.out.three
          obtain ⟨y0, y1, y2⟩ := XP4.out.three
          go_wp2_with fail
          refine (ImplDiskWrite_any d 1 p.at_ tx _ _ _ _ htx RD4.out HS.out).mono ?_
          rintro e w9 ⟨u0, u1, ul, rfl, ho, hb⟩
          obtain ⟨x, HX⟩ : ∃ x, Hid (writeM d 1 p.at_ tx = x) := ⟨_, Lib.hid rfl⟩
          rw [HX.out] at ho
          obtain ⟨U0, e0, U1, e1, Ul, el, rfl, rfl, rfl⟩ := ho.forms
          have hn := Below.new (w := w9) (.cells #[.slice U0 x.s0.length e0, .slice U1 x.s1.length e1, .slice Ul x.late.length el] 27)
          have XR9 := Lib.hid ((XR4.out.below hb XR4.out.lt).alloc (.cells #[.slice U0 x.s0.length e0, .slice U1 x.s1.length e1, .slice Ul x.late.length el] 27))
          have XO := Lib.hid (box_new w9 #[.slice U0 x.s0.length e0, .slice U1 x.s1.length e1, .slice Ul x.late.length el] 27)
          have hs9 : w.heap.size + 1 + 1 + 1 ≤ w9.heap.size := Nat.le_trans hs4 hb.size
          have B9 := Lib.hid ((B4.out.trans (hb.mono B4.out.size)).trans (hn.mono (Nat.le_trans B4.out.size hb.size)))
          have HO := Lib.hid ((ho.below hn).base (base' := w.heap.size + 1 + 1 + 1) hs4)
          clear ho hb hn XR4 B4 x0 x1 x2 y0 y1 y2 XD4 RD4 XP4
          obtain ⟨x0, x1, x2⟩ := XO.out.three
          have HF := Lib.hid (show healD d p = x from by unfold healD; rw [if_neg (not_not_intro HK.out), if_pos ⟨HQ.out, HR.out⟩, HTX.out, HX.out])
          by_cases hc : CanWrite d 1 p.at_ tx
          · have HF2 := Lib.hid (show healC d p = 0 from by unfold healC; rw [if_neg (not_not_intro HK.out), if_pos ⟨HQ.out, HR.out⟩, HTX.out, if_pos hc])
            rw [decide_eq_true hc]
            clear hc
            obtain ⟨r0, r1, r2⟩ := XR9.out.three
            have f0 := XR9.out.open_ 0
            have f1 := XR9.out.open_ 1
            have f2 := XR9.out.open_ 2
            have HQ := Lib.hid (laid_at XR9.out HO.out B9.out (by omega))
            have HQ1 := Lib.hid (XR9.out.set 0 (.slice U0 x.s0.length e0))
            have HQ2 := Lib.hid (HQ1.out.set 1 (.slice U1 x.s1.length e1))
            have HQ3 := Lib.hid (HQ2.out.set 2 (.slice Ul x.late.length el))
            go_wp2
            refine bodyPost_ret (v := .tuple #[.agg #[.slice U0 x.s0.length e0, .slice U1 x.s1.length e1, .slice Ul x.late.length el], .int .i64 0]) (by simp [results, Tryd.results30, go_sem, HQ1.out.cell 0 rfl, HQ2.out.cell 1 rfl, HQ3.out.cell 2 rfl]) rfl ?_
            rw [HF.out, HF2.out]
            exact ⟨_, _, _, rfl, HQ.out.1, HQ.out.2⟩
          · have HF2 := Lib.hid (show healC d p = 2 from by unfold healC; rw [if_neg (not_not_intro HK.out), if_pos ⟨HQ.out, HR.out⟩, HTX.out, if_neg hc])
            rw [decide_eq_false hc]
            clear hc
            obtain ⟨r0, r1, r2⟩ := XR9.out.three
            have f0 := XR9.out.open_ 0
            have f1 := XR9.out.open_ 1
            have f2 := XR9.out.open_ 2
            have HQ := Lib.hid (laid_at XR9.out HO.out B9.out (by omega))
            have HQ1 := Lib.hid (XR9.out.set 0 (.slice U0 x.s0.length e0))
            have HQ2 := Lib.hid (HQ1.out.set 1 (.slice U1 x.s1.length e1))
            have HQ3 := Lib.hid (HQ2.out.set 2 (.slice Ul x.late.length el))
            go_wp2
            refine bodyPost_ret (v := .tuple #[.agg #[.slice U0 x.s0.length e0, .slice U1 x.s1.length e1, .slice Ul x.late.length el], .int .i64 2]) (by simp [results, Tryd.results30, go_sem, HQ1.out.cell 0 rfl, HQ2.out.cell 1 rfl, HQ3.out.cell 2 rfl]) rfl ?_
            rw [HF.out, HF2.out]
            exact ⟨_, _, _, rfl, HQ.out.1, HQ.out.2⟩
      · have HQ := Lib.hid hq
        have HR := Lib.hid (HQ0.out.resolve_left hq)
        refine (implSide_is _ _ _ d p 0 a0 a1 _ RD2.out HS.out HE2.out false (decide_eq_false hq)).mono ?_
        rintro e w3 ⟨rfl, hb⟩
        clear hq
        have RD3 := Lib.hid (RD2.out.below hb)
        have XD3 := Lib.hid (XD2.out.below hb XD2.out.lt)
        have XP3 := Lib.hid (XP2.out.below hb XP2.out.lt)
        have XR3 := Lib.hid (XR2.out.below hb XR2.out.lt)
        have B3 := Lib.hid (B2.out.trans (hb.mono B2.out.size))
        have HE3 := Lib.hid (HE2.out.below hb)
        have hs3 : w.heap.size + 1 + 1 + 1 ≤ w3.heap.size := Nat.le_trans hs2 hb.size
        clear hb RD2 XD2 XP2 XR2 B2 HE2 hs2 x0 x1 x2 y0 y1 y2
        obtain ⟨x0, x1, x2⟩ := XD3.out.three
        obtain ⟨y0, y1, y2⟩ := XP3.out.three
        go_wp2_with fail
        refine (ImplDiskWrite_any d 0 p.at_ tx _ _ _ _ htx RD3.out HS.out).mono ?_
        rintro e w9 ⟨u0, u1, ul, rfl, ho, hb⟩
        obtain ⟨x, HX⟩ : ∃ x, Hid (writeM d 0 p.at_ tx = x) := ⟨_, Lib.hid rfl⟩
        rw [HX.out] at ho
        obtain ⟨U0, e0, U1, e1, Ul, el, rfl, rfl, rfl⟩ := ho.forms
        have hn := Below.new (w := w9) (.cells #[.slice U0 x.s0.length e0, .slice U1 x.s1.length e1, .slice Ul x.late.length el] 27)
        have XR9 := Lib.hid ((XR3.out.below hb XR3.out.lt).alloc (.cells #[.slice U0 x.s0.length e0, .slice U1 x.s1.length e1, .slice Ul x.late.length el] 27))
        have XO := Lib.hid (box_new w9 #[.slice U0 x.s0.length e0, .slice U1 x.s1.length e1, .slice Ul x.late.length el] 27)
        have hs9 : w.heap.size + 1 + 1 + 1 ≤ w9.heap.size := Nat.le_trans hs3 hb.size
        have B9 := Lib.hid ((B3.out.trans (hb.mono B3.out.size)).trans (hn.mono (Nat.le_trans B3.out.size hb.size)))
        have HO := Lib.hid ((ho.below hn).base (base' := w.heap.size + 1 + 1 + 1) hs3)
        clear ho hb hn XR3 B3 x0 x1 x2 y0 y1 y2 XD3 RD3 XP3
        obtain ⟨x0, x1, x2⟩ := XO.out.three
        have HF := Lib.hid (show healD d p = x from by unfold healD; rw [if_neg (not_not_intro HK.out), if_neg (fun h => HQ.out h.1), if_pos ⟨HQ.out, HR.out⟩, HTX.out, HX.out])
        by_cases hc : CanWrite d 0 p.at_ tx
        · have HF2 := Lib.hid (show healC d p = 0 from by unfold healC; rw [if_neg (not_not_intro HK.out), if_neg (fun h => HQ.out h.1), if_pos ⟨HQ.out, HR.out⟩, HTX.out, if_pos hc])
          rw [decide_eq_true hc]
          clear hc
          obtain ⟨r0, r1, r2⟩ := XR9.out.three
          have f0 := XR9.out.open_ 0
          have f1 := XR9.out.open_ 1
          have f2 := XR9.out.open_ 2
          have HQ := Lib.hid (laid_at XR9.out HO.out B9.out (by omega))
          have HQ1 := Lib.hid (XR9.out.set 0 (.slice U0 x.s0.length e0))
          have HQ2 := Lib.hid (HQ1.out.set 1 (.slice U1 x.s1.length e1))
          have HQ3 := Lib.hid (HQ2.out.set 2 (.slice Ul x.late.length el))
          go_wp2
          refine bodyPost_ret (v := .tuple #[.agg #[.slice U0 x.s0.length e0, .slice U1 x.s1.length e1, .slice Ul x.late.length el], .int .i64 0]) (by simp [results, Tryd.results30, go_sem, HQ1.out.cell 0 rfl, HQ2.out.cell 1 rfl, HQ3.out.cell 2 rfl]) rfl ?_
          rw [HF.out, HF2.out]
          exact ⟨_, _, _, rfl, HQ.out.1, HQ.out.2⟩
        · have HF2 := Lib.hid (show healC d p = 2 from by unfold healC; rw [if_neg (not_not_intro HK.out), if_neg (fun h => HQ.out h.1), if_pos ⟨HQ.out, HR.out⟩, HTX.out, if_neg hc])
          rw [decide_eq_false hc]
          clear hc
          obtain ⟨r0, r1, r2⟩ := XR9.out.three
          have f0 := XR9.out.open_ 0
          have f1 := XR9.out.open_ 1
          have f2 := XR9.out.open_ 2
          have HQ := Lib.hid (laid_at XR9.out HO.out B9.out (by omega))
          have HQ1 := Lib.hid (XR9.out.set 0 (.slice U0 x.s0.length e0))
          have HQ2 := Lib.hid (HQ1.out.set 1 (.slice U1 x.s1.length e1))
          have HQ3 := Lib.hid (HQ2.out.set 2 (.slice Ul x.late.length el))
          go_wp2
          refine bodyPost_ret (v := .tuple #[.agg #[.slice U0 x.s0.length e0, .slice U1 x.s1.length e1, .slice Ul x.late.length el], .int .i64 2]) (by simp [results, Tryd.results30, go_sem, HQ1.out.cell 0 rfl, HQ2.out.cell 1 rfl, HQ3.out.cell 2 rfl]) rfl ?_
          rw [HF.out, HF2.out]
          exact ⟨_, _, _, rfl, HQ.out.1, HQ.out.2⟩
    · have HN := Lib.hid (show ¬ HasB d p 0 ∧ ¬ HasB d p 1 from by
        rw [← HCD.out] at hcd
        unfold blkCode at hcd
        split at hcd
        · rename_i hn; exact ⟨null_not d p 0 hn, null_not d p 1 hn⟩
        · split at hcd
          · exact absurd rfl hcd
          · rename_i h; exact ⟨fun h0 => h (Or.inl h0), fun h0 => h (Or.inr h0)⟩)
      have HF := Lib.hid (show healD d p = d from by unfold healD; rw [if_neg (not_not_intro HK.out), if_neg (fun h => HN.out.1 h.1), if_neg (fun h => HN.out.2 h.2)])
      have HF2 := Lib.hid (show healC d p = cd from by unfold healC; rw [if_neg (not_not_intro HK.out), if_neg (fun h => HN.out.1 h.1), if_neg (fun h => HN.out.2 h.2), HCD.out])
      go_wp2_with fail
      refine (diskCopy_any _ _ _ d _ RD2.out HS.out).mono ?_
      rintro e wc ⟨u0, u1, ul, rfl, ho, hb⟩
      obtain ⟨U0, e0, U1, e1, Ul, el, rfl, rfl, rfl⟩ := ho.forms
      have XRc := Lib.hid (XR2.out.below hb XR2.out.lt)
      have Bc := Lib.hid (B2.out.trans (hb.mono B2.out.size))
      have HOc := Lib.hid (ho.base (base' := w.heap.size + 1 + 1 + 1) hs2)
      clear ho hb XR2 B2 x0 x1 x2 y0 y1 y2 XD2 RD2 XP2
      go_wp2_with fail
      refine (disk_any _ _ _ _ _ _ _ _ _ _).mono ?_
      rintro e wd ⟨rfl, hb⟩
      have XRd := Lib.hid (XRc.out.below hb XRc.out.lt)
      have Bd := Lib.hid (Bc.out.trans (hb.mono Bc.out.size))
      have HOd := Lib.hid (HOc.out.below hb)
      clear hb XRc Bc HOc
      obtain ⟨r0, r1, r2⟩ := XRd.out.three
      have f0 := XRd.out.open_ 0
      have f1 := XRd.out.open_ 1
      have f2 := XRd.out.open_ 2
      have HQ := Lib.hid (laid_at XRd.out HOd.out Bd.out (by omega))
      have HQ1 := Lib.hid (XRd.out.set 0 (.slice U0 d.s0.length e0))
      have HQ2 := Lib.hid (HQ1.out.set 1 (.slice U1 d.s1.length e1))
      have HQ3 := Lib.hid (HQ2.out.set 2 (.slice Ul d.late.length el))
      go_wp2
      refine bodyPost_ret (v := .tuple #[.agg #[.slice U0 d.s0.length e0, .slice U1 d.s1.length e1, .slice Ul d.late.length el], .int .i64 cd]) (by simp [results, Tryd.results30, go_sem, HQ1.out.cell 0 rfl, HQ2.out.cell 1 rfl, HQ3.out.cell 2 rfl]) rfl ?_
      rw [HF.out, HF2.out]
      exact ⟨_, _, _, rfl, HQ.out.1, HQ.out.2⟩
  · have HF := Lib.hid (show healD d p = noDisk from by unfold healD; rw [if_pos hok])
    have HF2 := Lib.hid (show healC d p = 2 from by unfold healC; rw [if_pos hok])
    go_enter Tryd.func30, Tryd.ntmps30
    go_wp2_with fail
    refine (ImOk_is _ _ _ d _ RD.out HS.out false (decide_eq_false hok)).mono ?_
    rintro e w1 ⟨rfl, hb⟩
    have XR1 := Lib.hid (XR.out.below hb XR.out.lt)
    have B1 := Lib.hid (B0.out.trans (hb.mono B0.out.size))
    clear hb RD XD XR XP B0 hsz hok
    obtain ⟨x0, x1, x2⟩ := XR1.out.three
    have f0 := XR1.out.open_ 0
    have f1 := XR1.out.open_ 1
    have f2 := XR1.out.open_ 2
    go_wp2
    have q1 := XR1.out.set 0 (.slice none 0 0)
    have q2 := q1.set 1 (.slice none 0 0)
    have q3 := q2.set 2 (.slice none 0 0)
    refine bodyPost_ret (v := .tuple #[.agg #[.slice none 0 0, .slice none 0 0, .slice none 0 0], .int .i64 2]) (by simp [results, Tryd.results30, go_sem, q1.cell 0 rfl, q2.cell 1 rfl, q3.cell 2 rfl]) rfl ?_
    rw [HF.out, HF2.out]
    exact ⟨_, _, _, rfl, noDisk_own _ _, ((B1.out.setCell (by simp; omega) _).setCell (by simp; omega) _).setCell (by simp; omega) _⟩
end Go.Proofs.YtfacbjldpenpjaaDoor
