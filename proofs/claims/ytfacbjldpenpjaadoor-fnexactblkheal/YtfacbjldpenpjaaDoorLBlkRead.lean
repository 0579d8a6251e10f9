/-
  The law on BlkRead, walked.
-/
import Derived.Test.YtfacbjldpenpjaaDoorLBlkSide
set_option maxRecDepth 100000
namespace Go.Proofs.YtfacbjldpenpjaaDoor
open Go.ChangeShapes Go.WideShapes Go.ChangeAt Go.RowKit Go.Proofs.Palim

theorem specRead_is (v0 v1 vl : Value) (d : DiskM) (p : PtrM) (w : World) (h : DiskR w v0 v1 vl d) (hs : DiskShort d) (tx : ByteArray) (cd : Int) (h1 : blkText d p = tx) (h2 : blkCode d p = cd) :
    Calls Tryd.prog 28 #[.agg #[v0, v1, vl], pv p] w fun e w' => e = .returned (.tuple #[.string tx, .int .i64 cd]) ∧ Below w.heap.size w w' := h1 ▸ h2 ▸ specBlkRead_any v0 v1 vl d p w h hs
theorem implRead_is (v0 v1 vl : Value) (d : DiskM) (p : PtrM) (a0 a1 : Addr) (w : World) (h : DiskR w v0 v1 vl d) (hs : DiskShort d) (he : Errs w a0 a1) (tx : ByteArray) (cd : Int) (h1 : blkText d p = tx) (h2 : blkCode d p = cd) :
    Calls Tryd.prog 14 #[.agg #[v0, v1, vl], pv p] w fun e w' => e = .returned (.tuple #[.string tx, .int .i64 cd]) ∧ Below w.heap.size w w' := h1 ▸ h2 ▸ implBlkRead_any v0 v1 vl d p a0 a1 w h hs he

set_option maxHeartbeats 2000000 in
theorem lawBlkRead (v0 v1 vl : Value) (d : DiskM) (p : PtrM) (a0 a1 : Addr) (w : World) (h : DiskR w v0 v1 vl d) (he : Errs w a0 a1) (hz0 : ∀ s ∈ d.s0, s.size ≤ maxLen) (hz1 : ∀ s ∈ d.s1, s.size ≤ maxLen) (hzl : ∀ l ∈ d.late, l.text.size ≤ maxLen) :
    Calls Tryd.prog 7 #[.agg #[v0, v1, vl], pv p] w fun e w' => e = .returned (.bool true) ∧ Below w.heap.size w w' := by
  have hnot : ∀ (x : Bool) (w : World), (Op.unary .not (.bool x)).run Tryd.prog w = .ok (.bool (!x)) w := fun _ _ => rfl
  have HZ0 := Lib.hid hz0
  have HZ1 := Lib.hid hz1
  have HZL := Lib.hid hzl
  obtain ⟨tx, HTX⟩ : ∃ tx, Hid (blkText d p = tx) := ⟨_, Lib.hid rfl⟩
  obtain ⟨cd, HCD⟩ : ∃ cd, Hid (blkCode d p = cd) := ⟨_, Lib.hid rfl⟩
  have hn1 := Below.new (w := w.alloc (.cells #[v0, v1, vl] 52)) (.cells #[.int .i64 p.at_, .int .i64 p.sum, .int .i64 p.birth] 42)
  have XD := Lib.hid ((boxed_new h 52).below hn1)
  have XP := Lib.hid (box2 w #[v0, v1, vl] #[.int .i64 p.at_, .int .i64 p.sum, .int .i64 p.birth] 52 42).2.1
  have B0 := Lib.hid (box2 w #[v0, v1, vl] #[.int .i64 p.at_, .int .i64 p.sum, .int .i64 p.birth] 52 42).2.2.2
  have HE0 := Lib.hid (he.below B0.out)
  clear h hz0 hz1 hzl hn1 he
  go_enter Tryd.func7, Tryd.ntmps7
  go_wp2_with fail
  refine (szDisk_any v0 v1 vl d 1048576 _ XD.out.reads HZ0.out HZ1.out HZL.out (by omega) (by omega)).mono ?_
  rintro e w1 ⟨⟨r, rfl, hr⟩, hb⟩
  have XD1 := Lib.hid (XD.out.below hb)
  have XP1 := Lib.hid (XP.out.below hb XP.out.lt)
  have B1 := Lib.hid (B0.out.trans (hb.mono B0.out.size))
  have HE1 := Lib.hid (HE0.out.below hb)
  clear hb XD XP B0 HE0
  rcases hr with rfl | ⟨hr0, hr1⟩
  · go_wp2
    go_ret
    exact ⟨rfl, B1.out⟩
  have HS := Lib.hid (short_of_sz (d := d) (by omega))
  have hr2 : ¬ r < 0 := by omega
  clear hr1 HZ0 HZ1 HZL
  obtain ⟨x0, x1, x2⟩ := XD1.out.box.three
  obtain ⟨y0, y1, y2⟩ := XP1.out.three
  have hlt1 := XP1.out.lt
  have RD := Lib.hid XD1.out.reads.drew
  go_wp2_with fail
  -- spec's answer
  go_region_held3 (fun w' => w.heap.size + 2 ≤ w'.heap.size ∧ w'.cell? ⟨w.heap.size, 0, none⟩ = some v0 ∧ w'.cell? ⟨w.heap.size, 1, none⟩ = some v1 ∧ w'.cell? ⟨w.heap.size, 2, none⟩ = some vl ∧ w'.cell? ⟨w.heap.size + 1, 0, none⟩ = some (.int .i64 p.at_) ∧ w'.cell? ⟨w.heap.size + 1, 1, none⟩ = some (.int .i64 p.sum) ∧ w'.cell? ⟨w.heap.size + 1, 2, none⟩ = some (.int .i64 p.birth))
    (first
      | exact ⟨by simp; omega, x0, x1, x2, y0, y1, y2⟩
      | (go_split_ands
         refine ⟨Nat.le_trans (by assumption) hbs.size, ?_, ?_, ?_, ?_, ?_, ?_⟩
         all_goals (rw [hbs.cell (by simp <;> omega)]; assumption))
      | (go_split_ands
         refine ⟨Nat.le_trans (by assumption) hbt.size, ?_, ?_, ?_, ?_, ?_, ?_⟩
         all_goals (rw [hbt.cell (by simp <;> omega)]; assumption))
      | (go_split_ands
         refine ⟨Nat.le_trans (by assumption) hbp.size, ?_, ?_, ?_, ?_, ?_, ?_⟩
         all_goals (rw [hbp.cell (by simp <;> omega)]; assumption)))
    (first
      | (go_at_call 25; ((refine (toDisk_any v0 v1 vl d _ (by first | exact RD.out | exact RD.out.below hbp) HS.out).mono ?_); rintro e wt ⟨b0, b1, bl, rfl, hbo, hbt⟩))
      | (go_at_call 18; ((refine (toPtr_any p _).mono ?_); rintro e wp ⟨rfl, hbp⟩))
      | (go_at_call 28; ((refine (specRead_is b0 b1 bl d p _ (by first | exact hbo.reads | exact hbo.reads.below hbp) HS.out tx cd HTX.out HCD.out).mono ?_); rintro e ws ⟨rfl, hbs⟩)))
  have hb15 := below_three (a := w1) hbt hbp hbs
  have XD5 := Lib.hid (XD1.out.below hb15)
  have XP5 := Lib.hid (XP1.out.below hb15 XP1.out.lt)
  have B5 := Lib.hid (B1.out.trans (hb15.mono B1.out.size))
  have HE5 := Lib.hid (HE1.out.below hb15)
  clear hbt hbp hbs hb15 hbo XD1 XP1 B1 HE1 x0 x1 x2 y0 y1 y2 hlt1 RD
  obtain ⟨x0, x1, x2⟩ := XD5.out.box.three
  go_wp2_with fail
  -- x0
  refine (toDisk_any v0 v1 vl d _ XD5.out.reads HS.out).mono ?_
  rintro e w6 ⟨c0, c1, cl, rfl, ha, hb⟩
  obtain ⟨A0, k0, A1, k1, Al, kl, rfl, rfl, rfl⟩ := ha.forms
  have hn := Below.new (w := w6) (.cells #[.slice A0 d.s0.length k0, .slice A1 d.s1.length k1, .slice Al d.late.length kl] 27)
  have XD6 := Lib.hid ((XD5.out.below hb).below hn)
  have XP6 := Lib.hid ((XP5.out.below hb XP5.out.lt).alloc (.cells #[.slice A0 d.s0.length k0, .slice A1 d.s1.length k1, .slice Al d.late.length kl] 27))
  have hw6 := (XP5.out.below hb XP5.out.lt).lt
  have XA := Lib.hid (boxed_new ha.reads 27)
  have HE6 := Lib.hid ((HE5.out.below hb).below hn)
  have B6 := Lib.hid ((B5.out.trans (hb.mono B5.out.size)).trans (hn.mono (Nat.le_trans B5.out.size hb.size)))
  clear ha hb hn XD5 XP5 B5 HE5 x0 x1 x2
  obtain ⟨x0, x1, x2⟩ := XA.out.box.three
  obtain ⟨y0, y1, y2⟩ := XP6.out.three
  have hlt6 : w.heap.size + 2 ≤ w6.heap.size := hw6
  go_wp2_with fail
  have RA := Lib.hid XA.out.reads.drew
  have HE7 := Lib.hid HE6.out.drew
  go_region_held3 (fun w' => w6.heap.size + 1 ≤ w'.heap.size ∧ w'.cell? ⟨w6.heap.size, 0, none⟩ = some (.slice A0 d.s0.length k0) ∧ w'.cell? ⟨w6.heap.size, 1, none⟩ = some (.slice A1 d.s1.length k1) ∧ w'.cell? ⟨w6.heap.size, 2, none⟩ = some (.slice Al d.late.length kl) ∧ w'.cell? ⟨w.heap.size + 1, 0, none⟩ = some (.int .i64 p.at_) ∧ w'.cell? ⟨w.heap.size + 1, 1, none⟩ = some (.int .i64 p.sum) ∧ w'.cell? ⟨w.heap.size + 1, 2, none⟩ = some (.int .i64 p.birth))
    (first
      | exact ⟨by simp, x0, x1, x2, y0, y1, y2⟩
      | (go_split_ands
         refine ⟨Nat.le_trans (by assumption) hbs.size, ?_, ?_, ?_, ?_, ?_, ?_⟩
         all_goals (rw [hbs.cell (by simp <;> omega)]; assumption))
      | (go_split_ands
         refine ⟨Nat.le_trans (by assumption) hbp.size, ?_, ?_, ?_, ?_, ?_, ?_⟩
         all_goals (rw [hbp.cell (by simp <;> omega)]; assumption)))
    (first
      | (go_at_call 18; ((refine (toPtr_any p _).mono ?_); rintro e wp ⟨rfl, hbp⟩))
      | (go_at_call 14; ((refine (implRead_is _ _ _ d p a0 a1 _ (RA.out.below hbp) HS.out (HE7.out.below hbp) tx cd HTX.out HCD.out).mono ?_); rintro e ws ⟨rfl, hbs⟩)))
  have hb68 := below_two (a := w6.alloc (.cells #[.slice A0 d.s0.length k0, .slice A1 d.s1.length k1, .slice Al d.late.length kl] 27)) hbp hbs
  have XD8 := Lib.hid (XD6.out.below hb68)
  have XA8 := Lib.hid (XA.out.below hb68)
  have B8 := Lib.hid (B6.out.trans (hb68.mono B6.out.size))
  clear hbp hbs hb68 XD6 XP6 XA B6 HE6 HE7 RA x0 x1 x2 y0 y1 y2 hlt6 hw6
  obtain ⟨x0, x1, x2⟩ := XD8.out.box.three
  obtain ⟨y0, y1, y2⟩ := XA8.out.box.three
  have hlx := XD8.out.box.lt
  have hla := XA8.out.box.lt
  go_wp2_with fail
  have RD := Lib.hid XD8.out.reads.drew
  have RA := Lib.hid XA8.out.reads.drew
  go_region_held3 (fun w' => w'.cell? ⟨w.heap.size, 0, none⟩ = some v0 ∧ w'.cell? ⟨w.heap.size, 1, none⟩ = some v1 ∧ w'.cell? ⟨w.heap.size, 2, none⟩ = some vl ∧ w'.cell? ⟨w6.heap.size, 0, none⟩ = some (.slice A0 d.s0.length k0) ∧ w'.cell? ⟨w6.heap.size, 1, none⟩ = some (.slice A1 d.s1.length k1) ∧ w'.cell? ⟨w6.heap.size, 2, none⟩ = some (.slice Al d.late.length kl))
    (first
      | go_keep
      | (go_split_ands
         refine ⟨?_, ?_, ?_, ?_, ?_, ?_⟩
         all_goals (rw [hb10.cell (by have := hb9.size; simp at this; simp <;> omega), hb9.cell (by simp <;> omega)]; assumption))
      | (go_split_ands
         refine ⟨?_, ?_, ?_, ?_, ?_, ?_⟩
         all_goals (rw [hb9.cell (by simp <;> omega)]; assumption)))
    (first
      | (go_at_call 25; ((refine (toDisk_any v0 v1 vl d _ RD.out HS.out).mono ?_); rintro e w9 ⟨b0, b1, bl, rfl, hbo, hb9⟩))
      | (go_at_call 27; ((refine (eqDisk_same _ _ _ _ _ _ d _ (RA.out.below hb9) hbo.reads HS.out).mono ?_); rintro e w10 ⟨rfl, hb10⟩)))
  all_goals
    have B10 := Lib.hid (B8.out.trans ((below_two (a := ws) hb9 hb10).mono B8.out.size))
    clear hb9 hb10 hbo RD RA XD8 XA8 B8 x0 x1 x2 y0 y1 y2
    go_wp2
    go_ret
    exact ⟨rfl, B10.out⟩
end Go.Proofs.YtfacbjldpenpjaaDoor
