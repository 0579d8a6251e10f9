/-
  The law on DiskOk, walked: what is asked of impl is hI.
-/
import Derived.Test.YtmbkibphbopocaaDiskArg
namespace Go.Proofs.Ytmbkibphbopocaa
open Go.ChangeShapes Go.WideShapes Go.ChangeAt Go.RowKit Go.Proofs.Palim

theorem tot_le {ss : List ByteArray} {s : ByteArray} (h : s ∈ ss) : s.size ≤ tot ss := by
  induction ss with
  | nil => cases h
  | cons a ss ih =>
    rcases List.mem_cons.1 h with rfl | h
    · simp [tot]
    · have := ih h; simp [tot] at this ⊢; omega
theorem short_of_sz {d : DiskM} (h : dsz d ≤ 1048576) : DiskShort d := by
  unfold dsz at h
  refine ⟨by omega, by omega, by omega, fun s hs => ?_, fun s hs => ?_, fun x hx => ?_⟩
  · have := tot_le hs; omega
  · have := tot_le hs; omega
  · have := tot_le (List.mem_map_of_mem (f := (·.text)) hx); omega

set_option maxHeartbeats 1000000 in
theorem lawDiskOk (v0 v1 vl : Value) (d : DiskM) (w : World) (h : DiskR w v0 v1 vl d) (hz0 : ∀ s ∈ d.s0, s.size ≤ maxLen) (hz1 : ∀ s ∈ d.s1, s.size ≤ maxLen) (hzl : ∀ l ∈ d.late, l.text.size ≤ maxLen)
    (hI : ∀ (v0 v1 vl : Value) (w : World), DiskR w v0 v1 vl d → DiskShort d → Calls Try.prog 25 #[.agg #[v0, v1, vl]] w fun e w' => e = .returned (.bool (decide (DiskOkM d))) ∧ Below w.heap.size w w') :
    Calls Try.prog 5 #[.agg #[v0, v1, vl]] w fun e w' => e = .returned (.bool true) ∧ Below w.heap.size w w' := by
  have hnot : ∀ (x : Bool) (w : World), (Op.unary .not (.bool x)).run Try.prog w = .ok (.bool (!x)) w := fun _ _ => rfl
  have HD := Lib.hid h
  have HZ0 := Lib.hid hz0
  have HZ1 := Lib.hid hz1
  have HZL := Lib.hid hzl
  have HI := Lib.hid hI
  clear h hz0 hz1 hzl hI
  go_enter Try.func5, Try.ntmps5
  go_wp2_with fail
  have XD := Lib.hid (boxed_new HD.out 43)
  have B0 := Lib.hid (Below.new (w := w) (.cells #[v0, v1, vl] 43))
  refine (szDisk_any v0 v1 vl d 1048576 _ XD.out.reads HZ0.out HZ1.out HZL.out (by omega) (by omega)).mono ?_
  rintro e w1 ⟨⟨r, rfl, hr⟩, hb⟩
  have XD1 := Lib.hid (XD.out.below hb)
  have B1 := Lib.hid (B0.out.trans (hb.mono B0.out.size))
  clear hb XD B0
  rcases hr with rfl | ⟨hr0, hr1⟩
  · go_wp2
    go_ret
    exact ⟨rfl, B1.out⟩
  have HS := Lib.hid (short_of_sz (d := d) (by omega))
  have hr2 : ¬ r < 0 := by omega
  clear hr1 HZ0 HZ1 HZL
  obtain ⟨x0, x1, x2⟩ := XD1.out.box.three
  go_wp2_with fail
  -- spec's answer
  refine (toDisk_any v0 v1 vl d _ XD1.out.reads HS.out).mono ?_
  rintro e w2 ⟨a0, a1, al, rfl, ha, hb⟩
  have XD2 := Lib.hid (XD1.out.below hb)
  have B2 := Lib.hid (B1.out.trans (hb.mono B1.out.size))
  have RA := Lib.hid ha.reads
  clear ha hb XD1 B1 x0 x1 x2
  go_wp2_with fail
  refine (DiskOk_any a0 a1 al d _ RA.out HS.out).mono ?_
  rintro e w3 ⟨rfl, hb⟩
  have XD3 := Lib.hid (XD2.out.below hb)
  have B3 := Lib.hid (B2.out.trans (hb.mono B2.out.size))
  clear hb XD2 B2 RA
  obtain ⟨ok, HOK⟩ : ∃ ok, Hid (decide (DiskOkM d) = ok) := ⟨_, Lib.hid rfl⟩
  rw [HOK.out]
  obtain ⟨x0, x1, x2⟩ := XD3.out.box.three
  go_wp2_with fail
  -- impl's answer
  refine (toDisk_any v0 v1 vl d _ XD3.out.reads HS.out).mono ?_
  rintro e w4 ⟨a0, a1, al, rfl, ha, hb⟩
  obtain ⟨A0, c0, A1, c1, Al, cl, rfl, rfl, rfl⟩ := ha.forms
  have hn := Below.new (w := w4) (.cells #[.slice A0 d.s0.length c0, .slice A1 d.s1.length c1, .slice Al d.late.length cl] 27)
  have XD4 := Lib.hid ((XD3.out.below hb).below hn)
  have XA := Lib.hid (boxed_new ha.reads 27)
  have B4 := Lib.hid ((B3.out.trans (hb.mono B3.out.size)).trans (hn.mono (Nat.le_trans B3.out.size hb.size)))
  clear ha hb hn XD3 B3 x0 x1 x2
  go_wp2_with fail
  refine (HI.out _ _ _ _ XA.out.reads HS.out).mono ?_
  rintro e w5 ⟨rfl, hb⟩
  rw [HOK.out]
  have XD5 := Lib.hid (XD4.out.below hb)
  have XA5 := Lib.hid (XA.out.below hb)
  have B5 := Lib.hid (B4.out.trans (hb.mono B4.out.size))
  clear hb XD4 XA B4
  obtain ⟨x0, x1, x2⟩ := XD5.out.box.three
  obtain ⟨y0, y1, y2⟩ := XA5.out.box.three
  go_wp2_with fail
  have RD := Lib.hid (show DiskR w5.drew _ _ _ d from ⟨XD5.out.reads.r0, XD5.out.reads.r1, XD5.out.reads.rl, XD5.out.reads.l0, XD5.out.reads.l1, XD5.out.reads.ll⟩)
  have RA := Lib.hid (show DiskR w5.drew _ _ _ d from ⟨XA5.out.reads.r0, XA5.out.reads.r1, XA5.out.reads.rl, XA5.out.reads.l0, XA5.out.reads.l1, XA5.out.reads.ll⟩)
  have hlx := XD5.out.box.lt
  have hla := XA5.out.box.lt
  go_region_held3 (fun w' => w'.cell? ⟨w.heap.size, 0, none⟩ = some v0 ∧ w'.cell? ⟨w.heap.size, 1, none⟩ = some v1 ∧ w'.cell? ⟨w.heap.size, 2, none⟩ = some vl ∧ w'.cell? ⟨w4.heap.size, 0, none⟩ = some (.slice A0 d.s0.length c0) ∧ w'.cell? ⟨w4.heap.size, 1, none⟩ = some (.slice A1 d.s1.length c1) ∧ w'.cell? ⟨w4.heap.size, 2, none⟩ = some (.slice Al d.late.length cl))
    (first
      | go_keep
      | (go_split_ands
         refine ⟨?_, ?_, ?_, ?_, ?_, ?_⟩
         all_goals (rw [hb7.cell (by have := hb6.size; simp at this; simp <;> omega), hb6.cell (by simp <;> omega)]; assumption))
      | (go_split_ands
         refine ⟨?_, ?_, ?_, ?_, ?_, ?_⟩
         all_goals (rw [hb6.cell (by simp <;> omega)]; assumption)))
    (first
      | (go_at_call 24; ((refine (toDisk_any v0 v1 vl d _ RD.out HS.out).mono ?_); rintro e w6 ⟨b0, b1, bl, rfl, hbo, hb6⟩))
      | (go_at_call 19; ((refine (eqDisk_same _ _ _ _ _ _ d _ (RA.out.below hb6) hbo.reads HS.out).mono ?_); rintro e w7 ⟨rfl, hb7⟩)))
  all_goals
    have B6 := Lib.hid ((B5.out.drew.trans (hb6.mono B5.out.size)).trans (hb7.mono (Nat.le_trans B5.out.size hb6.size)))
    clear hb6 hb7 hbo RD RA XD5 XA5 B5 x0 x1 x2 y0 y1 y2
    go_wp2
    go_ret
    exact ⟨rfl, B6.out⟩
end Go.Proofs.Ytmbkibphbopocaa
