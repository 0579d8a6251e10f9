/-
  The law on DiskSame, walked: what is asked of impl is hI.
-/
import Derived.Test.YtmbkibphbopocaaLDiskOk
import Derived.Test.YtmbkibphbopocaaDiskSame2
set_option maxRecDepth 100000
namespace Go.Proofs.Ytmbkibphbopocaa
open Go.ChangeShapes Go.WideShapes Go.ChangeAt Go.RowKit Go.Proofs.Palim

theorem DiskR.drew {w : World} {v0 v1 vl : Value} {d : DiskM} (h : DiskR w v0 v1 vl d) : DiskR w.drew v0 v1 vl d := ⟨h.r0, h.r1, h.rl, h.l0, h.l1, h.ll⟩
theorem below_drew (w : World) : Below w.heap.size w w.drew := (Below.refl _ _).drew

set_option maxHeartbeats 2000000 in
theorem lawDiskSame (a0 a1 al b0 b1 bl : Value) (d f : DiskM) (w : World) (h : DiskR w a0 a1 al d) (k : DiskR w b0 b1 bl f) (hz0 : ∀ s ∈ d.s0, s.size ≤ maxLen) (hz1 : ∀ s ∈ d.s1, s.size ≤ maxLen) (hzl : ∀ l ∈ d.late, l.text.size ≤ maxLen)
    (kz0 : ∀ s ∈ f.s0, s.size ≤ maxLen) (kz1 : ∀ s ∈ f.s1, s.size ≤ maxLen) (kzl : ∀ l ∈ f.late, l.text.size ≤ maxLen)
    (hI : ∀ (a0 a1 al b0 b1 bl : Value) (w : World), DiskR w a0 a1 al d → DiskR w b0 b1 bl f → DiskShort d → DiskShort f → Calls Try.prog 27 #[.agg #[a0, a1, al], .agg #[b0, b1, bl]] w fun e w' => e = .returned (.bool (decide (SameM d f))) ∧ Below w.heap.size w w') :
    Calls Try.prog 6 #[.agg #[a0, a1, al], .agg #[b0, b1, bl]] w fun e w' => e = .returned (.bool true) ∧ Below w.heap.size w w' := by
  have hnot : ∀ (x : Bool) (w : World), (Op.unary .not (.bool x)).run Try.prog w = .ok (.bool (!x)) w := fun _ _ => rfl
  have HD := Lib.hid h
  have HF := Lib.hid k
  have HZ := Lib.hid (And.intro hz0 (And.intro hz1 hzl))
  have KZ := Lib.hid (And.intro kz0 (And.intro kz1 kzl))
  have HI := Lib.hid hI
  clear h k hz0 hz1 hzl kz0 kz1 kzl hI
  obtain ⟨hA, hC, hsz, hB⟩ := box2 w #[a0, a1, al] #[b0, b1, bl] 43 43
  have RA0 := Lib.hid (HD.out.below hB)
  have RB0 := Lib.hid (HF.out.below hB)
  have XA0 := Lib.hid hA
  have XB0 := Lib.hid hC
  have B0 := Lib.hid hB
  clear hA hC hB
  go_enter Try.func6, Try.ntmps6
  go_wp2_with fail
  refine (szDisk_any a0 a1 al d 1048576 _ RA0.out HZ.out.1 HZ.out.2.1 HZ.out.2.2 (by omega) (by omega)).mono ?_
  rintro e w1 ⟨⟨r, rfl, hr⟩, hb⟩
  have RA1 := Lib.hid (RA0.out.below hb)
  have RB1 := Lib.hid (RB0.out.below hb)
  have XA1 := Lib.hid (XA0.out.below hb (by omega))
  have XB1 := Lib.hid (XB0.out.below hb (by omega))
  have B1 := Lib.hid (B0.out.trans (hb.mono B0.out.size))
  clear hb RA0 RB0 XA0 XB0 B0 hsz
  rcases hr with rfl | ⟨hr0, hr1⟩
  · go_wp2
    go_ret
    exact ⟨rfl, B1.out⟩
  have HS := Lib.hid (short_of_sz (d := d) (by omega))
  have hr2 : ¬ r < 0 := by omega
  have hr3 : r ≤ 1048576 := by omega
  clear hr1 HZ
  obtain ⟨y0, y1, y2⟩ := XB1.out.three
  go_wp2_with fail
  refine (szDisk_any b0 b1 bl f r _ RB1.out KZ.out.1 KZ.out.2.1 KZ.out.2.2 (by omega) (by omega)).mono ?_
  rintro e w2 ⟨⟨q, rfl, hq⟩, hb⟩
  have RA2 := Lib.hid (RA1.out.below hb)
  have RB2 := Lib.hid (RB1.out.below hb)
  have XA2 := Lib.hid (XA1.out.below hb XA1.out.lt)
  have XB2 := Lib.hid (XB1.out.below hb XB1.out.lt)
  have B2 := Lib.hid (B1.out.trans (hb.mono B1.out.size))
  clear hb RA1 RB1 XA1 XB1 B1 y0 y1 y2
  rcases hq with rfl | ⟨hq0, hq1⟩
  · go_wp2
    go_ret
    exact ⟨rfl, B2.out⟩
  have KS := Lib.hid (short_of_sz (d := f) (by omega))
  have hq2 : ¬ q < 0 := by omega
  clear hq1 KZ
  obtain ⟨x0, x1, x2⟩ := XA2.out.three
  obtain ⟨y0, y1, y2⟩ := XB2.out.three
  have hlx := XA2.out.lt
  have hly := XB2.out.lt
  have RAd := Lib.hid RA2.out.drew
  have RBd := Lib.hid RB2.out.drew
  obtain ⟨ok, HOK⟩ : ∃ ok, Hid (decide (SameM d f) = ok) := ⟨_, Lib.hid rfl⟩
  go_wp2_with fail
  -- spec's answer
  go_region_held3 (fun w' => w'.cell? ⟨w.heap.size, 0, none⟩ = some a0 ∧ w'.cell? ⟨w.heap.size, 1, none⟩ = some a1 ∧ w'.cell? ⟨w.heap.size, 2, none⟩ = some al ∧ w'.cell? ⟨w.heap.size + 1, 0, none⟩ = some b0 ∧ w'.cell? ⟨w.heap.size + 1, 1, none⟩ = some b1 ∧ w'.cell? ⟨w.heap.size + 1, 2, none⟩ = some bl)
    (first
      | go_keep
      | (go_split_ands
         refine ⟨?_, ?_, ?_, ?_, ?_, ?_⟩
         all_goals (rw [hb5.cell (by have := hb3.size; have := hb4.size; simp at *; omega), hb4.cell (by have := hb3.size; simp at *; omega), hb3.cell (by simp <;> omega)]; assumption))
      | (go_split_ands
         refine ⟨?_, ?_, ?_, ?_, ?_, ?_⟩
         all_goals (rw [hb4.cell (by have := hb3.size; simp at *; omega), hb3.cell (by simp <;> omega)]; assumption))
      | (go_split_ands
         refine ⟨?_, ?_, ?_, ?_, ?_, ?_⟩
         all_goals (rw [hb3.cell (by simp <;> omega)]; assumption)))
    (first
      | (go_at_call 24; ((with_reducible refine (toDisk_any a0 a1 al d _ RAd.out HS.out).mono ?_); rintro e w3 ⟨p0, p1, pl, rfl, hpo, hb3⟩))
      | (go_at_call 24; ((with_reducible refine (toDisk_any b0 b1 bl f _ (RBd.out.below hb3) KS.out).mono ?_); rintro e w4 ⟨q0, q1, ql, rfl, hqo, hb4⟩; have hpr := hpo.reads.below hb4; have hqr := hqo.reads))
      | (go_at_call 24; ((with_reducible refine (toDisk_any b0 b1 bl f _ RBd.out KS.out).mono ?_); rintro e w3 ⟨q0, q1, ql, rfl, hqo, hb3⟩))
      | (go_at_call 24; ((with_reducible refine (toDisk_any a0 a1 al d _ (RAd.out.below hb3) HS.out).mono ?_); rintro e w4 ⟨p0, p1, pl, rfl, hpo, hb4⟩; have hqr := hqo.reads.below hb4; have hpr := hpo.reads))
      | (go_at_call 26; ((with_reducible refine (DiskSame_any _ _ _ _ _ _ d f _ hpr hqr HS.out KS.out).mono ?_); rintro e w5 ⟨rfl, hb5⟩; rw [HOK.out])))
  all_goals
    have hb25 : Below w2.heap.size w2 w5 := (((below_drew w2).trans hb3).trans (hb4.mono hb3.size)).trans (hb5.mono (Nat.le_trans hb3.size hb4.size))
    have RA5 := Lib.hid (RA2.out.below hb25)
    have RB5 := Lib.hid (RB2.out.below hb25)
    have XA5 := Lib.hid (XA2.out.below hb25 hlx)
    have XB5 := Lib.hid (XB2.out.below hb25 hly)
    have B5 := Lib.hid (B2.out.trans (hb25.mono B2.out.size))
    clear hb25 hb3 hb4 hb5 hpo hqo hpr hqr RA2 RB2 XA2 XB2 B2 RAd RBd x0 x1 x2 y0 y1 y2 hlx hly
    obtain ⟨x0, x1, x2⟩ := XA5.out.three
    obtain ⟨y0, y1, y2⟩ := XB5.out.three
    go_wp2_with fail
    -- what impl is handed
    refine (toDisk_any a0 a1 al d _ RA5.out HS.out).mono ?_
    rintro e w6 ⟨m0, m1, ml, rfl, hm, hb⟩
    obtain ⟨M0, c0, M1, c1, Ml, cl, rfl, rfl, rfl⟩ := hm.forms
    have hn := Below.new (w := w6) (.cells #[.slice M0 d.s0.length c0, .slice M1 d.s1.length c1, .slice Ml d.late.length cl] 27)
    have RA6 := Lib.hid ((RA5.out.below hb).below hn)
    have RB6 := Lib.hid ((RB5.out.below hb).below hn)
    have XA6 := Lib.hid ((XA5.out.below hb XA5.out.lt).below hn (Nat.lt_of_lt_of_le XA5.out.lt hb.size))
    have XB6 := Lib.hid ((XB5.out.below hb XB5.out.lt).below hn (Nat.lt_of_lt_of_le XB5.out.lt hb.size))
    have XM6 := Lib.hid (boxed_new hm.reads 27)
    have B6 := Lib.hid ((B5.out.trans (hb.mono B5.out.size)).trans (hn.mono (Nat.le_trans B5.out.size hb.size)))
    clear hm hb hn RA5 RB5 XA5 XB5 B5 x0 x1 x2 y0 y1 y2
    obtain ⟨y0, y1, y2⟩ := XB6.out.three
    go_wp2_with fail
    refine (toDisk_any b0 b1 bl f _ RB6.out KS.out).mono ?_
    rintro e w7 ⟨m0, m1, ml, rfl, hm, hb⟩
    obtain ⟨N0, g0, N1, g1, Nl, gl, rfl, rfl, rfl⟩ := hm.forms
    have hn := Below.new (w := w7) (.cells #[.slice N0 f.s0.length g0, .slice N1 f.s1.length g1, .slice Nl f.late.length gl] 27)
    have RA7 := Lib.hid ((RA6.out.below hb).below hn)
    have RB7 := Lib.hid ((RB6.out.below hb).below hn)
    have XA7 := Lib.hid ((XA6.out.below hb XA6.out.lt).below hn (Nat.lt_of_lt_of_le XA6.out.lt hb.size))
    have XB7 := Lib.hid ((XB6.out.below hb XB6.out.lt).below hn (Nat.lt_of_lt_of_le XB6.out.lt hb.size))
    have XM7 := Lib.hid ((XM6.out.below hb).below hn)
    have XN7 := Lib.hid (boxed_new hm.reads 27)
    have B7 := Lib.hid ((B6.out.trans (hb.mono B6.out.size)).trans (hn.mono (Nat.le_trans B6.out.size hb.size)))
    clear hm hb hn RA6 RB6 XA6 XB6 XM6 B6 y0 y1 y2
    obtain ⟨z0, z1, z2⟩ := XM7.out.box.three
    go_wp2_with fail
    refine (HI.out _ _ _ _ _ _ _ XM7.out.reads XN7.out.reads HS.out KS.out).mono ?_
    rintro e w8 ⟨rfl, hb⟩
    rw [HOK.out]
    have RA8 := Lib.hid (RA7.out.below hb)
    have RB8 := Lib.hid (RB7.out.below hb)
    have XA8 := Lib.hid (XA7.out.below hb XA7.out.lt)
    have XB8 := Lib.hid (XB7.out.below hb XB7.out.lt)
    have XM8 := Lib.hid (XM7.out.below hb)
    have XN8 := Lib.hid (XN7.out.below hb)
    have B8 := Lib.hid (B7.out.trans (hb.mono B7.out.size))
    clear hb RA7 RB7 XA7 XB7 XM7 XN7 B7 z0 z1 z2
    obtain ⟨x0, x1, x2⟩ := XA8.out.three
    obtain ⟨z0, z1, z2⟩ := XM8.out.box.three
    have RD := Lib.hid RA8.out.drew
    have RM := Lib.hid XM8.out.reads.drew
    have hlx := XA8.out.lt
    have hlm := XM8.out.box.lt
    go_wp2_with fail
    go_region_held3 (fun w' => w'.cell? ⟨w.heap.size, 0, none⟩ = some a0 ∧ w'.cell? ⟨w.heap.size, 1, none⟩ = some a1 ∧ w'.cell? ⟨w.heap.size, 2, none⟩ = some al ∧ w'.cell? ⟨w6.heap.size, 0, none⟩ = some (.slice M0 d.s0.length c0) ∧ w'.cell? ⟨w6.heap.size, 1, none⟩ = some (.slice M1 d.s1.length c1) ∧ w'.cell? ⟨w6.heap.size, 2, none⟩ = some (.slice Ml d.late.length cl))
      (first
        | go_keep
        | (go_split_ands
           refine ⟨?_, ?_, ?_, ?_, ?_, ?_⟩
           all_goals (rw [hb10.cell (by have := hb9.size; simp at this; simp <;> omega), hb9.cell (by simp <;> omega)]; assumption))
        | (go_split_ands
           refine ⟨?_, ?_, ?_, ?_, ?_, ?_⟩
           all_goals (rw [hb9.cell (by simp <;> omega)]; assumption)))
      (first
        | (go_at_call 24; ((with_reducible refine (toDisk_any a0 a1 al d _ RD.out HS.out).mono ?_); rintro e w9 ⟨t0, t1, tl, rfl, hbo, hb9⟩))
        | (go_at_call 19; ((with_reducible refine (eqDisk_same _ _ _ _ _ _ d _ (RM.out.below hb9) hbo.reads HS.out).mono ?_); rintro e w10 ⟨rfl, hb10⟩)))
    all_goals
      have hb810 : Below w8.heap.size w8 w10 := ((below_drew w8).trans hb9).trans (hb10.mono hb9.size)
      have RB10 := Lib.hid (RB8.out.below hb810)
      have XB10 := Lib.hid (XB8.out.below hb810 XB8.out.lt)
      have XN10 := Lib.hid (XN8.out.below hb810)
      have B10 := Lib.hid (B8.out.trans (hb810.mono B8.out.size))
      clear hb810 hb9 hb10 hbo RA8 RB8 XA8 XB8 XM8 XN8 B8 RD RM x0 x1 x2 z0 z1 z2 hlx hlm
      obtain ⟨x0, x1, x2⟩ := XB10.out.three
      obtain ⟨z0, z1, z2⟩ := XN10.out.box.three
      have RD := Lib.hid RB10.out.drew
      have RM := Lib.hid XN10.out.reads.drew
      have hlx := XB10.out.lt
      have hlm := XN10.out.box.lt
      go_wp2_with fail
      go_region_held3 (fun w' => w'.cell? ⟨w.heap.size + 1, 0, none⟩ = some b0 ∧ w'.cell? ⟨w.heap.size + 1, 1, none⟩ = some b1 ∧ w'.cell? ⟨w.heap.size + 1, 2, none⟩ = some bl ∧ w'.cell? ⟨w7.heap.size, 0, none⟩ = some (.slice N0 f.s0.length g0) ∧ w'.cell? ⟨w7.heap.size, 1, none⟩ = some (.slice N1 f.s1.length g1) ∧ w'.cell? ⟨w7.heap.size, 2, none⟩ = some (.slice Nl f.late.length gl))
        (first
          | go_keep
          | (go_split_ands
             refine ⟨?_, ?_, ?_, ?_, ?_, ?_⟩
             all_goals (rw [hb12.cell (by have := hb11.size; simp at this; simp <;> omega), hb11.cell (by simp <;> omega)]; assumption))
          | (go_split_ands
             refine ⟨?_, ?_, ?_, ?_, ?_, ?_⟩
             all_goals (rw [hb11.cell (by simp <;> omega)]; assumption)))
        (first
          | (go_at_call 24; ((with_reducible refine (toDisk_any b0 b1 bl f _ RD.out KS.out).mono ?_); rintro e w11 ⟨t0, t1, tl, rfl, hbo, hb11⟩))
          | (go_at_call 19; ((with_reducible refine (eqDisk_same _ _ _ _ _ _ f _ (RM.out.below hb11) hbo.reads KS.out).mono ?_); rintro e w12 ⟨rfl, hb12⟩)))
      all_goals
        have B12 := Lib.hid ((B10.out.trans (((below_drew w10).trans hb11).mono B10.out.size)).trans (hb12.mono (Nat.le_trans B10.out.size hb11.size)))
        clear hb11 hb12 hbo RB10 XB10 XN10 B10 RD RM x0 x1 x2 z0 z1 z2
        go_wp2
        go_ret
        exact ⟨rfl, B12.out⟩
end Go.Proofs.Ytmbkibphbopocaa
