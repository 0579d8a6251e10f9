/-
  The law on BlkWrite, walked: what is asked of impl is hI.
-/
import Derived.Test.YtfacbjldpenpjaaLDiskFlush
import Derived.Test.YtfacbjldpenpjaaBlkW
set_option maxRecDepth 100000
namespace Go.Proofs.Ytfacbjldpenpjaa
open Go.ChangeShapes Go.WideShapes Go.ChangeAt Go.RowKit Go.Proofs.Palim

set_option maxHeartbeats 2000000 in
theorem lawBlkWrite (v0 v1 vl : Value) (d r : DiskM) (at_ : Int) (text : ByteArray) (b : Bool) (w : World) (htx : text.size ≤ maxLen) (h : DiskR w v0 v1 vl d) (hz0 : ∀ s ∈ d.s0, s.size ≤ maxLen) (hz1 : ∀ s ∈ d.s1, s.size ≤ maxLen) (hzl : ∀ l ∈ d.late, l.text.size ≤ maxLen) (hrs : text.size ≤ 1048576 → DiskShort d → DiskShort r)
    (hSp : text.size ≤ 1048576 → ∀ (v0 v1 vl : Value) (w : World), DiskR w v0 v1 vl d → DiskShort d → Calls Try.prog 19 #[.agg #[v0, v1, vl], .int .i64 at_, .string text] w (NewDisk2 w r b))
    (hI : text.size ≤ 1048576 → ∀ (v0 v1 vl : Value) (w : World), DiskR w v0 v1 vl d → DiskShort d → Calls Try.prog 21 #[.agg #[v0, v1, vl], .int .i64 at_, .string text] w (NewDisk2 w r b)) :
    Calls Try.prog 6 #[.agg #[v0, v1, vl], .int .i64 at_, .string text] w fun e w' => e = .returned (.bool true) ∧ Below w.heap.size w w' := by
  have hnot : ∀ (x : Bool) (w : World), (Op.unary .not (.bool x)).run Try.prog w = .ok (.bool (!x)) w := fun _ _ => rfl
  have HD := Lib.hid h
  have HZ0 := Lib.hid hz0
  have HZ1 := Lib.hid hz1
  have HZL := Lib.hid hzl
  have HRS := Lib.hid hrs
  have HSP := Lib.hid hSp
  have HI := Lib.hid hI
  clear h hz0 hz1 hzl hrs hSp hI
  by_cases hlong : 1048576 < text.size
  · unfold maxLen at htx
    go_enter Try.func6, Try.ntmps6
    go_wp2
    go_ret
    exact ⟨rfl, (Below.refl _ _).alloc (Nat.le_refl _) _⟩
  replace HSP := Lib.hid (HSP.out (by omega))
  replace HI := Lib.hid (HI.out (by omega))
  go_enter Try.func6, Try.ntmps6
  go_wp2_with fail
  have XD := Lib.hid (boxed_new HD.out 48)
  have B0 := Lib.hid (Below.new (w := w) (.cells #[v0, v1, vl] 48))
  refine (szDisk_any v0 v1 vl d 1048576 _ XD.out.reads HZ0.out HZ1.out HZL.out (by omega) (by omega)).mono ?_
  rintro e w1 ⟨⟨rr, rfl, hr⟩, hb⟩
  have XD1 := Lib.hid (XD.out.below hb)
  have B1 := Lib.hid (B0.out.trans (hb.mono B0.out.size))
  clear hb XD B0
  rcases hr with rfl | ⟨hr0, hr1⟩
  · go_wp2
    go_ret
    exact ⟨rfl, B1.out⟩
  have HS := Lib.hid (short_of_sz (d := d) (by omega))
  have hr2 : ¬ rr < 0 := by omega
  clear hr1 HZ0 HZ1 HZL
  obtain ⟨x0, x1, x2⟩ := XD1.out.box.three
  go_wp2_with fail
  have RS := Lib.hid (HRS.out (by omega) HS.out)
  -- spec's answer
  refine (toDisk_any v0 v1 vl d _ XD1.out.reads HS.out).mono ?_
  rintro e w2 ⟨a0, a1, al, rfl, ha, hb⟩
  have XD2 := Lib.hid (XD1.out.below hb)
  have B2 := Lib.hid (B1.out.trans (hb.mono B1.out.size))
  have RA := Lib.hid ha.reads
  clear ha hb XD1 B1 x0 x1 x2
  go_wp2_with fail
  refine (HSP.out a0 a1 al _ RA.out HS.out).mono ?_
  rintro e w3 ⟨s0, s1, sl, rfl, ha, hb⟩
  obtain ⟨A0, c0, A1, c1, Al, cl, rfl, rfl, rfl⟩ := ha.forms
  have hn := Below.new (w := w3) (.cells #[.slice A0 r.s0.length c0, .slice A1 r.s1.length c1, .slice Al r.late.length cl] 27)
  have XD3 := Lib.hid ((XD2.out.below hb).below hn)
  have XA := Lib.hid (boxed_new ha.reads 27)
  have hw3 := (XD2.out.below hb).box.lt
  have B3 := Lib.hid ((B2.out.trans (hb.mono B2.out.size)).trans (hn.mono (Nat.le_trans B2.out.size hb.size)))
  clear ha hb hn XD2 B2 RA
  obtain ⟨x0, x1, x2⟩ := XD3.out.box.three
  have hlt := XD3.out.box.lt
  go_wp2_with fail
  -- x0
  refine (toDisk_any v0 v1 vl d _ XD3.out.reads HS.out).mono ?_
  rintro e w4 ⟨a0, a1, al, rfl, ha, hb⟩
  obtain ⟨X0, m0, X1, m1, Xl, ml, rfl, rfl, rfl⟩ := ha.forms
  have hn := Below.new (w := w4) (.cells #[.slice X0 d.s0.length m0, .slice X1 d.s1.length m1, .slice Xl d.late.length ml] 27)
  have XD4 := Lib.hid ((XD3.out.below hb).below hn)
  have XA4 := Lib.hid ((XA.out.below hb).below hn)
  have XX := Lib.hid (boxed_new ha.reads 27)
  have OX := Lib.hid (ha.below hn)
  have B4 := Lib.hid ((B3.out.trans (hb.mono B3.out.size)).trans (hn.mono (Nat.le_trans B3.out.size hb.size)))
  have hx3 : w3.heap.size < (w3.alloc (.cells #[.slice A0 r.s0.length c0, .slice A1 r.s1.length c1, .slice Al r.late.length cl] 27)).heap.size := by simp
  have hx4 := hb.size
  clear ha hb hn XD3 XA B3 x0 x1 x2 hlt
  go_wp2_with fail
  -- impl's answer
  refine (HI.out _ _ _ _ XX.out.reads HS.out).mono ?_
  rintro e w5 ⟨g0, g1, gl, rfl, hg, hb⟩
  obtain ⟨G0, k0, G1, k1, Gl, kl, rfl, rfl, rfl⟩ := hg.forms
  have hn := Below.new (w := w5) (.cells #[.slice G0 r.s0.length k0, .slice G1 r.s1.length k1, .slice Gl r.late.length kl] 27)
  have XD5 := Lib.hid ((XD4.out.below hb).below hn)
  have XA5 := Lib.hid ((XA4.out.below hb).below hn)
  have XX5 := Lib.hid ((XX.out.below hb).below hn)
  have OX5 := Lib.hid ((OX.out.below hb).below hn)
  have XG := Lib.hid (boxed_new hg.reads 27)
  have OG := Lib.hid (hg.below hn)
  have B5 := Lib.hid ((B4.out.trans (hb.mono B4.out.size)).trans (hn.mono (Nat.le_trans B4.out.size hb.size)))
  have hx5 : w4.heap.size < (w4.alloc (.cells #[.slice X0 d.s0.length m0, .slice X1 d.s1.length m1, .slice Xl d.late.length ml] 27)).heap.size := by simp
  have hx6 := hb.size
  clear hg hb hn XD4 XA4 XX OX B4
  obtain ⟨x0, x1, x2⟩ := XA5.out.box.three
  have hlt := (XA5.out.box.lt)
  go_wp2_with fail
  refine (eqDisk_same _ _ _ _ _ _ r _ OG.out.reads XA5.out.reads RS.out).mono ?_
  rintro e w6 ⟨rfl, hb⟩
  have XD6 := Lib.hid (XD5.out.below hb)
  have XA6 := Lib.hid (XA5.out.below hb)
  have XX6 := Lib.hid (XX5.out.below hb)
  have OX6 := Lib.hid (OX5.out.below hb)
  have XG6 := Lib.hid (XG.out.below hb)
  have OG6 := Lib.hid (OG.out.below hb)
  have B6 := Lib.hid (B5.out.trans (hb.mono B5.out.size))
  have hw6 : w5.heap.size ≤ w6.heap.size := by have := hb.size; simp at this; omega
  clear hb XD5 XA5 XX5 OX5 XG OG B5 x0 x1 x2 hlt
  generalize (w3.alloc (.cells #[.slice A0 r.s0.length c0, .slice A1 r.s1.length c1, .slice Al r.late.length cl] 27)).heap.size = CX at hx3 hx4 OX6
  generalize (w4.alloc (.cells #[.slice X0 d.s0.length m0, .slice X1 d.s1.length m1, .slice Xl d.late.length ml] 27)).heap.size = CG at hx5 hx6 OG6
  -- the argument is as it was
  obtain ⟨x0, x1, x2⟩ := XD6.out.box.three
  obtain ⟨y0, y1, y2⟩ := XX6.out.box.three
  go_wp2_with fail
  have RD := Lib.hid (show DiskR w6.drew _ _ _ d from ⟨XD6.out.reads.r0, XD6.out.reads.r1, XD6.out.reads.rl, XD6.out.reads.l0, XD6.out.reads.l1, XD6.out.reads.ll⟩)
  have RX := Lib.hid (show DiskR w6.drew _ _ _ d from ⟨XX6.out.reads.r0, XX6.out.reads.r1, XX6.out.reads.rl, XX6.out.reads.l0, XX6.out.reads.l1, XX6.out.reads.ll⟩)
  have hlx := XD6.out.box.lt
  have hla := XX6.out.box.lt
  go_region_held3 (fun w' => w'.cell? ⟨w.heap.size, 0, none⟩ = some v0 ∧ w'.cell? ⟨w.heap.size, 1, none⟩ = some v1 ∧ w'.cell? ⟨w.heap.size, 2, none⟩ = some vl ∧ w'.cell? ⟨w4.heap.size, 0, none⟩ = some (.slice X0 d.s0.length m0) ∧ w'.cell? ⟨w4.heap.size, 1, none⟩ = some (.slice X1 d.s1.length m1) ∧ w'.cell? ⟨w4.heap.size, 2, none⟩ = some (.slice Xl d.late.length ml))
    (first
      | go_keep
      | (go_split_ands
         refine ⟨?_, ?_, ?_, ?_, ?_, ?_⟩
         all_goals (rw [hb8.cell (by have := hb7.size; simp at this; simp <;> omega), hb7.cell (by simp <;> omega)]; assumption))
      | (go_split_ands
         refine ⟨?_, ?_, ?_, ?_, ?_, ?_⟩
         all_goals (rw [hb7.cell (by simp <;> omega)]; assumption)))
    (first
      | (go_at_call 20; ((refine (toDisk_any v0 v1 vl d _ RD.out HS.out).mono ?_); rintro e w7 ⟨b0, b1, bl, rfl, hbo, hb7⟩))
      | (go_at_call 22; ((refine (eqDisk_same _ _ _ _ _ _ d _ (RX.out.below hb7) hbo.reads HS.out).mono ?_); rintro e w8 ⟨rfl, hb8⟩)))
  all_goals
    have hb68 : Below w6.heap.size w6 w8 := by
      have h1 : Below w6.heap.size w6 w6.drew := (Below.refl _ _).drew
      exact (h1.trans hb7).trans (hb8.mono hb7.size)
    have XD8 := Lib.hid (XD6.out.below hb68)
    have XA8 := Lib.hid (XA6.out.below hb68)
    have XX8 := Lib.hid (XX6.out.below hb68)
    have OX8 := Lib.hid (OX6.out.below hb68)
    have XG8 := Lib.hid (XG6.out.below hb68)
    have OG8 := Lib.hid (OG6.out.below hb68)
    have B8 := Lib.hid (B6.out.trans (hb68.mono B6.out.size))
    have hw8 : w5.heap.size ≤ w8.heap.size := Nat.le_trans hw6 hb68.size
    clear hb7 hb8 hbo hb68 RD RX XD6 XA6 XX6 OX6 XG6 OG6 B6 x0 x1 x2 y0 y1 y2 hlx hla
    obtain ⟨x0, x1, x2⟩ := XX8.out.box.three
    go_wp2_with fail
    -- the argument marked
    refine (markDisk_any _ _ _ d 1 CX _ OX8.out HS.out (by omega) (by omega)).mono ?_
    rintro e w9 ⟨rfl, _, ht⟩
    have hwc : CX ≤ w8.heap.size := by omega
    have XA9 := Lib.hid (XA8.out.past ht OX8.out hx3)
    have XD9 := Lib.hid (XD8.out.past ht OX8.out (by omega))
    have XG9 := Lib.hid (XG8.out.box.turned ht (XX8.out.low.past (by omega)))
    have OG9 := Lib.hid (OG8.out.above ht XX8.out.low (by omega))
    have B9 := Lib.hid (B8.out.trans ((below_past ht OX8.out hwc).mono (by omega)))
    have LG := Lib.hid XG8.out.low
    have hw9 : w5.heap.size ≤ w9.heap.size := Nat.le_trans hw8 ht.size
    clear ht XA8 XD8 XX8 OX8 XG8 OG8 B8 x0 x1 x2
    have hm := dmend_small HS.out (k := 1) (by omega)
    obtain ⟨M, HM⟩ : ∃ M, Hid (dmend 1 d = M) := ⟨_, Lib.hid rfl⟩
    rw [HM.out] at hm
    rw [show 1 + d.s0.length + d.s1.length + 3 * d.late.length = M from HM.out]
    have hM0 : ¬ (M : Int) < 0 := by omega
    obtain ⟨x0, x1, x2⟩ := XG9.out.three
    obtain ⟨y0, y1, y2⟩ := XA9.out.box.three
    go_wp2_with fail
    refine (eqDisk_same _ _ _ _ _ _ r _ OG9.out.reads XA9.out.reads RS.out).mono ?_
    rintro e w10 ⟨rfl, hb⟩
    have XA10 := Lib.hid (XA9.out.below hb)
    have XD10 := Lib.hid (XD9.out.below hb)
    have XG10 := Lib.hid (XG9.out.below hb XG9.out.lt)
    have OG10 := Lib.hid (OG9.out.below hb)
    have B10 := Lib.hid (B9.out.trans (hb.mono B9.out.size))
    have hw10 : w5.heap.size ≤ w10.heap.size := Nat.le_trans hw9 hb.size
    clear hb XA9 XD9 XG9 OG9 B9 x0 x1 x2 y0 y1 y2
    obtain ⟨x0, x1, x2⟩ := XG10.out.three
    go_wp2_with fail
    -- the answer marked
    refine (markDisk_any _ _ _ r 1 CG _ OG10.out RS.out (by omega) (by omega)).mono ?_
    rintro e w11 ⟨rfl, hd, ht⟩
    have XA11 := Lib.hid (XA10.out.past ht OG10.out (by omega))
    have XD11 := Lib.hid (XD10.out.past ht OG10.out (by omega))
    have XG11 := Lib.hid (XG10.out.turned ht (LG.out.past (Nat.le_refl _)))
    have B11 := Lib.hid (B10.out.trans ((below_past ht OG10.out (by omega)).mono (by omega)))
    have OG11 := Lib.hid hd
    clear hd ht XA10 XD10 XG10 OG10 B10 x0 x1 x2 LG
    have hq := dmend_small RS.out (k := 1) (by omega)
    obtain ⟨N, HN⟩ : ∃ N, Hid (dmend 1 r = N) := ⟨_, Lib.hid rfl⟩
    rw [HN.out] at hq
    rw [show 1 + r.s0.length + r.s1.length + 3 * r.late.length = N from HN.out]
    have hN0 : ¬ (N : Int) < 0 := by omega
    obtain ⟨x0, x1, x2⟩ := XG11.out.three
    go_wp2_with fail
    refine (heldDisk_any _ _ _ r.s0.length r.s1.length r.late.length 1 _ OG11.out.reads RS.out.n0 RS.out.n1 RS.out.nl (by omega) (by omega)).mono ?_
    rintro e w12 ⟨rfl, hb⟩
    rw [show 1 + r.s0.length + r.s1.length + 3 * r.late.length = N from HN.out]
    have XA12 := Lib.hid (XA11.out.below hb)
    have XD12 := Lib.hid (XD11.out.below hb)
    have XG12 := Lib.hid (XG11.out.below hb XG11.out.lt)
    have OG12 := Lib.hid (OG11.out.below hb)
    have B12 := Lib.hid (B11.out.trans (hb.mono B11.out.size))
    clear hb XA11 XD11 XG11 OG11 B11 x0 x1 x2
    obtain ⟨x0, x1, x2⟩ := XD12.out.box.three
    go_wp2_with fail
    -- once more
    refine (toDisk_any v0 v1 vl d _ XD12.out.reads HS.out).mono ?_
    rintro e w13 ⟨a0, a1, al, rfl, ha, hb⟩
    have XA13 := Lib.hid (XA12.out.below hb)
    have XG13 := Lib.hid (XG12.out.below hb XG12.out.lt)
    have OG13 := Lib.hid (OG12.out.below hb)
    have B13 := Lib.hid (B12.out.trans (hb.mono B12.out.size))
    have RA := Lib.hid ha.reads
    clear ha hb XA12 XD12 XG12 OG12 B12 x0 x1 x2
    go_wp2_with fail
    refine (HI.out _ _ _ _ RA.out HS.out).mono ?_
    rintro e w14 ⟨i0, i1, il, rfl, hi, hb⟩
    obtain ⟨I0, j0, I1, j1, Il, jl, rfl, rfl, rfl⟩ := hi.forms
    have hn := Below.new (w := w14) (.cells #[.slice I0 r.s0.length j0, .slice I1 r.s1.length j1, .slice Il r.late.length jl] 27)
    have XA14 := Lib.hid ((XA13.out.below hb).below hn)
    have XG14 := Lib.hid ((XG13.out.below hb XG13.out.lt).alloc (.cells #[.slice I0 r.s0.length j0, .slice I1 r.s1.length j1, .slice Il r.late.length jl] 27))
    have OG14 := Lib.hid ((OG13.out.below hb).below hn)
    have RI := Lib.hid (hi.below hn).reads
    have B14 := Lib.hid ((B13.out.trans (hb.mono B13.out.size)).trans (hn.mono (Nat.le_trans B13.out.size hb.size)))
    have hlt := (XA13.out.below hb).box.lt
    clear hi hb hn XA13 XG13 OG13 B13 RA
    obtain ⟨x0, x1, x2⟩ := XA14.out.box.three
    go_wp2_with fail
    refine (eqDisk_same _ _ _ _ _ _ r _ RI.out XA14.out.reads RS.out).mono ?_
    rintro e w15 ⟨rfl, hb⟩
    have XG15 := Lib.hid (XG14.out.below hb XG14.out.lt)
    have OG15 := Lib.hid (OG14.out.below hb)
    have B15 := Lib.hid (B14.out.trans (hb.mono B14.out.size))
    clear hb XA14 XG14 OG14 B14 RI x0 x1 x2 hlt
    obtain ⟨x0, x1, x2⟩ := XG15.out.three
    go_wp2_with fail
    refine (heldDisk_any _ _ _ r.s0.length r.s1.length r.late.length 1 _ OG15.out.reads RS.out.n0 RS.out.n1 RS.out.nl (by omega) (by omega)).mono ?_
    rintro e w16 ⟨rfl, hb⟩
    rw [show 1 + r.s0.length + r.s1.length + 3 * r.late.length = N from HN.out]
    have B16 := Lib.hid (B15.out.trans (hb.mono B15.out.size))
    clear hb XG15 OG15 B15 x0 x1 x2
    go_wp2
    go_ret
    exact ⟨rfl, B16.out⟩
end Go.Proofs.Ytfacbjldpenpjaa
