/-
  The law on DdtFind, walked.
-/
import Derived.Test.YtoeaeckkmpdpiaaDoorDdtF
set_option maxRecDepth 100000
namespace Go.Proofs.YtoeaeckkmpdpiaaDoor
open Go.ChangeShapes Go.WideShapes Go.ChangeAt Go.RowKit Go.Proofs.Palim

set_option maxHeartbeats 2000000 in
theorem lawDdtFind (v0 v1 vl : Value) (d : DiskM) (v : Value) (ls : List EntM) (tx : ByteArray) (a0 a1 : Addr) (w : World) (hd : DiskR w v0 v1 vl d) (he : Errs w a0 a1) (hz0 : ∀ s ∈ d.s0, s.size ≤ maxLen) (hz1 : ∀ s ∈ d.s1, s.size ≤ maxLen) (hzl : ∀ l ∈ d.late, l.text.size ≤ maxLen)
    (h : Sl w 3 v ls.length (ecs ls)) (hv : Low w.heap.size v) (hm : tx.size ≤ maxLen) :
    Calls Tryd.prog 4 #[.agg #[v0, v1, vl], v, .string tx] w fun e w' => e = .returned (.bool true) ∧ Below w.heap.size w w' := by
  have hnot : ∀ (x : Bool) (w : World), (Op.unary .not (.bool x)).run Tryd.prog w = .ok (.bool (!x)) w := fun _ _ => rfl
  unfold maxLen at hm
  have hn0 := Below.new (w := w) (.cells #[v0, v1, vl] 32)
  have XD := Lib.hid (boxed_new hd 32)
  have B0 := Lib.hid hn0
  have HE0 := Lib.hid (he.below hn0)
  have HV := Lib.hid (show Low (w.alloc (.cells #[v0, v1, vl] 32)).heap.size v from fun b e => Nat.lt_of_lt_of_le (hv b e) hn0.size)
  have HD := Lib.hid (h.below hn0 hv)
  have HZ0 := Lib.hid hz0
  have HZ1 := Lib.hid hz1
  have HZL := Lib.hid hzl
  obtain ⟨R, HR⟩ : ∃ R, Hid (findD d ls tx = R) := ⟨_, Lib.hid rfl⟩
  obtain ⟨n, HN⟩ : ∃ n, Hid (ls.length = n) := ⟨_, Lib.hid rfl⟩
  have hnm := h.le
  unfold maxLen at hnm
  obtain ⟨_, A, c, rfl, _, _, _⟩ := h
  clear hd he hz0 hz1 hzl hv hn0
  rw [HN.out] at HD HV hnm ⊢
  by_cases hbig : tx.size > 1048576
  · have hbi : (tx.size : Int) > 1048576 := by omega
    go_enter Tryd.func4, Tryd.ntmps4
    go_wp2
    go_ret
    exact ⟨rfl, B0.out⟩
  have hbi : ¬ ((tx.size : Int) > 1048576) := by omega
  obtain ⟨x0, x1, x2⟩ := XD.out.box.three
  go_enter Tryd.func4, Tryd.ntmps4
  go_wp2_with fail
  refine (szDisk_any v0 v1 vl d 1048576 _ XD.out.reads HZ0.out HZ1.out HZL.out (by omega) (by omega)).mono ?_
  rintro e w1 ⟨⟨r, rfl, hr⟩, hb⟩
  have XD1 := Lib.hid (XD.out.below hb)
  have B1 := Lib.hid (B0.out.trans (hb.mono B0.out.size))
  have HE1 := Lib.hid (HE0.out.below hb)
  have HV1 := Lib.hid (show Low w1.heap.size (.slice A n c) from fun b e => Nat.lt_of_lt_of_le (HV.out b e) hb.size)
  have HD1 := Lib.hid (HD.out.below hb HV.out)
  clear hb XD B0 HE0 HV HD x0 x1 x2
  rcases hr with rfl | ⟨hr0, hr1⟩
  · go_wp2
    go_ret
    exact ⟨rfl, B1.out⟩
  have HS := Lib.hid (short_of_sz (d := d) (by omega))
  have hr2 : ¬ r < 0 := by omega
  have hr3 : r ≤ 1048576 := by omega
  clear hr1 HZ0 HZ1 HZL
  go_wp2_with fail
  refine (szDdtEntryS_any _ n _ r _ HD1.out hr0 hr3).mono ?_
  rintro e w2 ⟨rfl, hb⟩
  have XD2 := Lib.hid (XD1.out.below hb)
  have B2 := Lib.hid (B1.out.trans (hb.mono B1.out.size))
  have HE2 := Lib.hid (HE1.out.below hb)
  have HV2 := Lib.hid (show Low w2.heap.size (.slice A n c) from fun b e => Nat.lt_of_lt_of_le (HV1.out b e) hb.size)
  have HD2 := Lib.hid (show Sl w2 3 (.slice A n c) ls.length (ecs ls) from by rw [HN.out]; exact HD1.out.below hb HV1.out)
  clear hb XD1 B1 HE1 HV1 HD1
  by_cases hbg : r < n
  · rw [if_pos hbg]
    go_wp2
    go_ret
    exact ⟨rfl, B2.out⟩
  rw [if_neg hbg]
  have hs : n ≤ 1048576 := by omega
  have hr4 : ¬ (r - (n : Int) < 0) := by omega
  obtain ⟨x0, x1, x2⟩ := XD2.out.box.three
  go_wp2_with fail
  -- spec's answer
  refine (toDisk_any v0 v1 vl d _ XD2.out.reads HS.out).mono ?_
  rintro e w3 ⟨b0, b1, bl, rfl, hbo, hb⟩
  have XD3 := Lib.hid (XD2.out.below hb)
  have B3 := Lib.hid (B2.out.trans (hb.mono B2.out.size))
  have HE3 := Lib.hid (HE2.out.below hb)
  have HV3 := Lib.hid (show Low w3.heap.size (.slice A n c) from fun b e => Nat.lt_of_lt_of_le (HV2.out b e) hb.size)
  have HD3 := Lib.hid (HD2.out.below hb HV2.out)
  have HDO := Lib.hid hbo.reads
  clear hb XD2 B2 HE2 HV2 HD2 hbo x0 x1 x2
  go_wp2_with fail
  refine (toDdtEntryS_any _ ls _ HD3.out HV3.out (by rw [HN.out]; exact hs)).mono ?_
  rintro e w4 ⟨va, rfl, hoa, hb⟩
  have HA := Lib.hid (sl_of_own hoa)
  have HAV := Lib.hid (low_of_own hoa)
  have XD4 := Lib.hid (XD3.out.below hb)
  have B4 := Lib.hid (B3.out.trans (hb.mono B3.out.size))
  have HE4 := Lib.hid (HE3.out.below hb)
  have HV4 := Lib.hid (show Low w4.heap.size (.slice A n c) from fun b e => Nat.lt_of_lt_of_le (HV3.out b e) hb.size)
  have HD4 := Lib.hid (HD3.out.below hb HV3.out)
  have HDO4 := Lib.hid (HDO.out.below hb)
  clear hb hoa XD3 B3 HE3 HV3 HD3 HDO
  go_wp2_with fail
  refine (specFind_is b0 b1 bl d va ls tx R _ HDO4.out HS.out HA.out HAV.out (by omega) HR.out).mono ?_
  rintro e w5 ⟨rfl, hb⟩
  have XD5 := Lib.hid (XD4.out.below hb)
  have B5 := Lib.hid (B4.out.trans (hb.mono B4.out.size))
  have HE5 := Lib.hid (HE4.out.below hb)
  have HV5 := Lib.hid (show Low w5.heap.size (.slice A n c) from fun b e => Nat.lt_of_lt_of_le (HV4.out b e) hb.size)
  have HD5 := Lib.hid (HD4.out.below hb HV4.out)
  clear hb XD4 B4 HE4 HV4 HD4 HDO4 HA HAV
  obtain ⟨x0, x1, x2⟩ := XD5.out.box.three
  go_wp2_with fail
  -- x0
  refine (toDisk_any v0 v1 vl d _ XD5.out.reads HS.out).mono ?_
  rintro e w6 ⟨c0, c1, cl, rfl, ha, hb⟩
  obtain ⟨A0, k0, A1, k1, Al, kl, rfl, rfl, rfl⟩ := ha.forms
  have hn := Below.new (w := w6) (.cells #[.slice A0 d.s0.length k0, .slice A1 d.s1.length k1, .slice Al d.late.length kl] 39)
  have XD6 := Lib.hid ((XD5.out.below hb).below hn)
  have XA := Lib.hid (boxed_new ha.reads 39)
  have HE6 := Lib.hid ((HE5.out.below hb).below hn)
  have HV6 := Lib.hid (show Low (w6.alloc (.cells #[.slice A0 d.s0.length k0, .slice A1 d.s1.length k1, .slice Al d.late.length kl] 39)).heap.size (.slice A n c) from fun b e => Nat.lt_of_lt_of_le (HV5.out b e) (Nat.le_trans hb.size hn.size))
  have HD6 := Lib.hid ((HD5.out.below hb HV5.out).below hn (fun b e => Nat.lt_of_lt_of_le (HV5.out b e) hb.size))
  have B6 := Lib.hid ((B5.out.trans (hb.mono B5.out.size)).trans (hn.mono (Nat.le_trans B5.out.size hb.size)))
  have hw6 : w.heap.size < w6.heap.size := (XD5.out.below hb).box.lt
  clear ha hb hn XD5 B5 HE5 HV5 HD5 x0 x1 x2
  go_wp2_with fail
  obtain ⟨W6, HW6⟩ : ∃ W, w6.alloc (.cells #[.slice A0 d.s0.length k0, .slice A1 d.s1.length k1, .slice Al d.late.length kl] 39) = W := ⟨_, rfl⟩
  rw [HW6] at XD6 XA HE6 HV6 HD6 B6 ⊢
  clear HW6
  refine (toDdtEntryS_any _ ls _ HD6.out HV6.out (by rw [HN.out]; exact hs)).mono ?_
  rintro e w7 ⟨va, rfl, hoa, hb⟩
  have HA := Lib.hid (sl_of_own hoa)
  have HAV := Lib.hid (low_of_own hoa)
  have XD7 := Lib.hid (XD6.out.below hb)
  have XA7 := Lib.hid (XA.out.below hb)
  have B7 := Lib.hid (B6.out.trans (hb.mono B6.out.size))
  have HE7 := Lib.hid (HE6.out.below hb)
  have HV7 := Lib.hid (show Low w7.heap.size (.slice A n c) from fun b e => Nat.lt_of_lt_of_le (HV6.out b e) hb.size)
  have HD7 := Lib.hid (HD6.out.below hb HV6.out)
  obtain ⟨_, A7, c7, rfl, _, _, _⟩ := sl_of_own hoa
  clear hb hoa XD6 XA B6 HE6 HV6 HD6
  obtain ⟨x0, x1, x2⟩ := XA7.out.box.three
  go_wp2_with fail
  refine (implFind_is _ _ _ d _ ls tx a0 a1 R _ XA7.out.reads HS.out HE7.out HA.out HAV.out (by omega) HR.out).mono ?_
  rintro e w8 ⟨rfl, hb⟩
  have XD8 := Lib.hid (XD7.out.below hb)
  have XA8 := Lib.hid (XA7.out.below hb)
  have B8 := Lib.hid (B7.out.trans (hb.mono B7.out.size))
  have HV8 := Lib.hid (show Low w8.heap.size (.slice A n c) from fun b e => Nat.lt_of_lt_of_le (HV7.out b e) hb.size)
  have HD8 := Lib.hid (HD7.out.below hb HV7.out)
  have HA8 := Lib.hid (HA.out.below hb HAV.out)
  have HAV8 := Lib.hid (HAV.out.mono hb.size)
  clear hb XD7 XA7 B7 HE7 HV7 HD7 HA HAV x0 x1 x2
  obtain ⟨x0, x1, x2⟩ := XD8.out.box.three
  obtain ⟨y0, y1, y2⟩ := XA8.out.box.three
  have hlx := XD8.out.box.lt
  have hla := XA8.out.box.lt
  go_wp2_with fail
  have RD := Lib.hid XD8.out.reads.drew
  have RA := Lib.hid XA8.out.reads.drew
  go_region_held3 (fun w' => w'.cell? ⟨w.heap.size, 0, none⟩ = some v0 ∧ w'.cell? ⟨w.heap.size, 1, none⟩ = some v1 ∧ w'.cell? ⟨w.heap.size, 2, none⟩ = some vl ∧ w'.cell? ⟨w6.heap.size, 0, none⟩ = some (.slice A0 d.s0.length k0) ∧ w'.cell? ⟨w6.heap.size, 1, none⟩ = some (.slice A1 d.s1.length k1) ∧ w'.cell? ⟨w6.heap.size, 2, none⟩ = some (.slice Al d.late.length kl))
    (first
      | go_keep
      | (go_split_ands
         refine ⟨?_, ?_, ?_, ?_, ?_, ?_⟩
         all_goals (rw [hb10.cell (by have := hb9.size; simp at this; simp <;> omega), hb9.cell (by simp <;> omega)]; assumption))
      | (go_split_ands
         refine ⟨?_, ?_, ?_, ?_, ?_, ?_⟩
         all_goals (rw [hb9.cell (by simp <;> omega)]; assumption)))
    (first
      | (go_at_call 14; ((refine (toDisk_any v0 v1 vl d _ RD.out HS.out).mono ?_); rintro e w9 ⟨b0, b1, bl, rfl, hbo, hb9⟩))
      | (go_at_call 17; ((refine (eqDisk_same _ _ _ _ _ _ d _ (RA.out.below hb9) hbo.reads HS.out).mono ?_); rintro e w10 ⟨rfl, hb10⟩)))
  all_goals
    have hb810 := below_two (a := w8) hb9 hb10
    have B10 := Lib.hid (B8.out.trans (hb810.mono B8.out.size))
    have HV10 := Lib.hid (show Low w10.heap.size (.slice A n c) from fun b e => Nat.lt_of_lt_of_le (HV8.out b e) hb810.size)
    have HD10 := Lib.hid (HD8.out.below hb810 HV8.out)
    have HA10 := Lib.hid (HA8.out.below hb810 HAV8.out)
    have HAV10 := Lib.hid (HAV8.out.mono hb810.size)
    clear hb9 hb10 hb810 hbo XD8 XA8 B8 HV8 HD8 HA8 HAV8 RD RA x0 x1 x2 y0 y1 y2
    go_wp2_with fail
    refine (toDdtEntryS_any _ ls _ HD10.out HV10.out (by rw [HN.out]; exact hs)).mono ?_
    rintro e w11 ⟨vb, rfl, hob, hb⟩
    have HB := Lib.hid (sl_of_own hob)
    have HBV := Lib.hid (low_of_own hob)
    have HA11 := Lib.hid (HA10.out.below hb HAV10.out)
    have HAV11 := Lib.hid (HAV10.out.mono hb.size)
    have B11 := Lib.hid (B10.out.trans (hb.mono B10.out.size))
    obtain ⟨_, A11, c11, rfl, _, _, _⟩ := sl_of_own hob
    clear hb hob HV10 HD10 HA10 HAV10 B10
    go_wp2_with fail
    refine (eqDdtEntryS_same _ _ ls _ HA11.out HB.out HAV11.out HBV.out (by rw [HN.out]; exact hs)).mono ?_
    rintro e w12 ⟨rfl, hb⟩
    have B12 := Lib.hid (B11.out.trans (hb.mono B11.out.size))
    clear hb B11
    go_wp2
    go_ret
    exact ⟨rfl, B12.out⟩
end Go.Proofs.YtoeaeckkmpdpiaaDoor
