/-
  The law on LogFind, walked.
-/
import Derived.Test.YtgjlhokakcdpbaaGreatDoorIFind
import Derived.Test.YtgjlhokakcdpbaaGreatDoorOpM
import Derived.Test.YtgjlhokakcdpbaaGreatDoorLDiskOk
set_option maxRecDepth 100000
namespace Go.Proofs.YtgjlhokakcdpbaaGreatDoor
open Go.ChangeShapes Go.WideShapes Go.ChangeAt Go.RowKit Go.Proofs.Palim

theorem below_turnedL {S : Nat → Prop} {B : Nat} {w w' : World} (ht : Turned S w w') (hS : ∀ b, S b → B ≤ b) (hB : B ≤ w.heap.size) : Below B w w' :=
  ⟨ht.os, ht.tape, ht.output, ht.size, fun i hi => ht.block i (by omega) (fun h => by have := hS i h; omega)⟩
/-- The law's own disk: it lies at x and below, so what turns above x leaves it. -/
theorem Boxed.keptD {w w' : World} {x : Nat} {v0 v1 vl : Value} {d : DiskM} (h : Boxed w x x v0 v1 vl d) (hb : ∀ b, b ≤ x → w'.heap[b]? = w.heap[b]?) (hs : w.heap.size ≤ w'.heap.size) : Boxed w' x x v0 v1 vl d :=
  ⟨h.box.kept (hb x (Nat.le_refl _)), h.low, diskR_kept (B := x) h.reads h.low.l0 h.low.l1 h.low.ll hs (fun b hlt => hb b (by omega)), h.lt⟩
set_option maxHeartbeats 6000000 in
theorem lawLogFind (v0 v1 vl : Value) (d : DiskM) (t : Int) (w : World) (h : DiskR w v0 v1 vl d) (hz0 : ∀ s ∈ d.s0, s.size ≤ maxLen) (hz1 : ∀ s ∈ d.s1, s.size ≤ maxLen) (hzl : ∀ l ∈ d.late, l.text.size ≤ maxLen) (hV : LogVars w) :
    Calls Tryz.prog 5 #[.agg #[v0, v1, vl], .int .i64 t] w fun e w' => e = .returned (.bool true) ∧ Below w.heap.size w w' := by
  have hnot : ∀ (x : Bool) (w : World), (Op.unary .not (.bool x)).run Tryz.prog w = .ok (.bool (!x)) w := fun _ _ => rfl
  obtain ⟨zs, hzs⟩ := found_ex d t
  have HZ := Lib.hid hzs
  have hzl8 := hzs.1
  have HV := Lib.hid hV
  have HD := Lib.hid h
  have HZ0 := Lib.hid hz0
  have HZ1 := Lib.hid hz1
  have HZL := Lib.hid hzl
  clear h hz0 hz1 hzl hV hzs
  go_enter Tryz.func5, Tryz.ntmps5
  go_wp2_with fail
  have XD := Lib.hid (boxed_new HD.out 46)
  have B := Lib.hid (Below.new (w := w) (.cells #[v0, v1, vl] 46))
  refine (szDisk_any v0 v1 vl d 1048576 _ XD.out.reads HZ0.out HZ1.out HZL.out (by omega) (by omega)).mono ?_
  rintro e w1 ⟨⟨rr, rfl, hr⟩, hb⟩
  have YXD := Lib.hid (XD.out.below hb)
  have YB := Lib.hid (B.out.trans (hb.mono B.out.size))
  clear XD B hb
  have XD := YXD
  clear YXD
  have B := YB
  clear YB
  rcases hr with rfl | ⟨hr0, hr1⟩
  · go_wp2
    go_ret
    exact ⟨rfl, B.out⟩
  have HS := Lib.hid (short_of_sz (d := d) (by omega))
  have hr2 : ¬ rr < 0 := by omega
  clear hr1 HZ0 HZ1 HZL
  obtain ⟨x0, x1, x2⟩ := XD.out.box.three
  go_wp2_with fail
  refine (toDisk_any v0 v1 vl d _ XD.out.reads HS.out).mono ?_
  rintro e w2 ⟨a0, a1, al, rfl, ha, hb⟩
  have RA := Lib.hid ha.reads
  clear ha x0 x1 x2
  have YXD := Lib.hid (XD.out.below hb)
  have YB := Lib.hid (B.out.trans (hb.mono B.out.size))
  clear XD B hb
  have XD := YXD
  clear YXD
  have B := YB
  clear YB
  go_wp2_with fail
  refine (specLFind_any a0 a1 al d t _ RA.out HS.out).mono ?_
  rintro e w3 ⟨gv, ls, hf, rfl, hown, hb⟩
  rw [found_one hf HZ.out] at hown
  have OW := Lib.hid (own_base hown B.out.size)
  obtain ⟨_, GA, gc, rfl, -, -, -⟩ := sl_of_own hown
  clear hown hf RA
  have YXD := Lib.hid (XD.out.below hb)
  have YB := Lib.hid (B.out.trans (hb.mono B.out.size))
  clear XD B hb
  have XD := YXD
  clear YXD
  have B := YB
  clear YB
  have hlt := XD.out.box.lt
  have HWL := Lib.hid (show ∀ b, (Value.slice GA zs.length gc).ownBlock = some b → b < w3.heap.size from fun b e => (OW.out.lt b e).2)
  obtain ⟨x0, x1, x2⟩ := XD.out.box.three
  go_wp2_with fail
  refine (toDisk_any v0 v1 vl d _ XD.out.reads HS.out).mono ?_
  rintro e w4 ⟨a0, a1, al, rfl, ha, hb⟩
  obtain ⟨X0, m0, X1, m1, Xl, ml, rfl, rfl, rfl⟩ := ha.forms
  have h34 := hb.size
  clear x0 x1 x2
  have YXD := Lib.hid (XD.out.below hb)
  have YOW := Lib.hid (own_kept OW.out (fun b e => hb.block b (OW.out.lt b e).2))
  have YB := Lib.hid (B.out.trans (hb.mono B.out.size))
  clear XD OW B hb
  have XD := YXD
  clear YXD
  have OW := YOW
  clear YOW
  have B := YB
  clear YB
  have hb := Below.new (w := w4) (.cells #[.slice X0 d.s0.length m0, .slice X1 d.s1.length m1, .slice Xl d.late.length ml] 36)
  have XX := Lib.hid (boxed_new ha.reads 36)
  have OX := Lib.hid (ha.below hb)
  clear ha
  have YXD := Lib.hid (XD.out.below hb)
  have YOW := Lib.hid (own_kept OW.out (fun b e => hb.block b (OW.out.lt b e).2))
  have YB := Lib.hid (B.out.trans (hb.mono B.out.size))
  clear XD OW B hb
  have XD := YXD
  clear YXD
  have OW := YOW
  clear YOW
  have B := YB
  clear YB
  obtain ⟨x0, x1, x2⟩ := XX.out.box.three
  have hv4 : w4.heap.size < (w4.alloc (.cells #[.slice X0 d.s0.length m0, .slice X1 d.s1.length m1, .slice Xl d.late.length ml] 36)).heap.size := by simp
  go_wp2_with fail
  refine (implLFind_any _ _ _ d t _ XX.out.reads HS.out (HV.out.below B.out)).mono ?_
  rintro e w5 ⟨hv, ls, hf, rfl, hown, hb⟩
  rw [found_one hf HZ.out] at hown
  have OG := Lib.hid hown
  obtain ⟨_, HA, hc, rfl, -, -, -⟩ := sl_of_own hown
  have HGL := Lib.hid (show ∀ b, (Value.slice HA zs.length hc).ownBlock = some b → w4.heap.size ≤ b from fun b e => by have := (OG.out.lt b e).1; omega)
  clear hown hf x0 x1 x2
  have YXD := Lib.hid (XD.out.below hb)
  have YOW := Lib.hid (own_kept OW.out (fun b e => hb.block b (OW.out.lt b e).2))
  have YXX := Lib.hid (XX.out.below hb)
  have YOX := Lib.hid (OX.out.below hb)
  have YB := Lib.hid (B.out.trans (hb.mono B.out.size))
  clear XD OW XX OX B hb
  have XD := YXD
  clear YXD
  have OW := YOW
  clear YOW
  have XX := YXX
  clear YXX
  have OX := YOX
  clear YOX
  have B := YB
  clear YB
  go_wp2_with fail
  refine (eqBookOpS_same _ _ zs _ (sl_of_own OG.out) (sl_of_own OW.out) (fun b e => (OG.out.lt b e).2) (fun b e => (OW.out.lt b e).2) (by omega)).mono ?_
  rintro e w6 ⟨rfl, hb⟩
  have YXD := Lib.hid (XD.out.below hb)
  have YOW := Lib.hid (own_kept OW.out (fun b e => hb.block b (OW.out.lt b e).2))
  have YXX := Lib.hid (XX.out.below hb)
  have YOX := Lib.hid (OX.out.below hb)
  have YOG := Lib.hid (own_kept OG.out (fun b e => hb.block b (OG.out.lt b e).2))
  have YB := Lib.hid (B.out.trans (hb.mono B.out.size))
  clear XD OW XX OX OG B hb
  have XD := YXD
  clear YXD
  have OW := YOW
  clear YOW
  have XX := YXX
  clear YXX
  have OX := YOX
  clear YOX
  have OG := YOG
  clear YOG
  have B := YB
  clear YB
  have hw46 : w4.heap.size < w6.heap.size := XX.out.box.lt
  obtain ⟨x0, x1, x2⟩ := XD.out.box.three
  obtain ⟨y0, y1, y2⟩ := XX.out.box.three
  go_wp2_with fail
  have RD := Lib.hid (show DiskR w6.drew _ _ _ d from ⟨XD.out.reads.r0, XD.out.reads.r1, XD.out.reads.rl, XD.out.reads.l0, XD.out.reads.l1, XD.out.reads.ll⟩)
  have RX := Lib.hid (show DiskR w6.drew _ _ _ d from ⟨XX.out.reads.r0, XX.out.reads.r1, XX.out.reads.rl, XX.out.reads.l0, XX.out.reads.l1, XX.out.reads.ll⟩)
  have hlx := XD.out.box.lt
  have hla := XX.out.box.lt
  go_region_held3 (fun w' => w'.cell? ⟨w.heap.size, 0, none⟩ = some v0 ∧ w'.cell? ⟨w.heap.size, 1, none⟩ = some v1 ∧ w'.cell? ⟨w.heap.size, 2, none⟩ = some vl ∧ w'.cell? ⟨w4.heap.size, 0, none⟩ = some (.slice X0 d.s0.length m0) ∧ w'.cell? ⟨w4.heap.size, 1, none⟩ = some (.slice X1 d.s1.length m1) ∧ w'.cell? ⟨w4.heap.size, 2, none⟩ = some (.slice Xl d.late.length ml))
    (first
      | go_keep
      | (go_split_ands
         refine ⟨?_, ?_, ?_, ?_, ?_, ?_⟩
         all_goals (rw [hb8.cell (by have := hb7.size; simp at this; simp <;> omega), hb7.cell (by simp <;> omega)]; assumption))
      | (go_split_ands
         refine ⟨?_, ?_, ?_, ?_, ?_, ?_⟩
         all_goals (rw [hb7.cell (by simp <;> omega)]; assumption)))
    (first
      | (go_at_call 20; ((refine (toDisk_any v0 v1 vl d _ RD.out HS.out).mono ?_); rintro e w7 ⟨b0, b1, bl, rfl, hbo, hb7⟩))
      | (go_at_call 24; ((refine (eqDisk_same _ _ _ _ _ _ d _ (RX.out.below hb7) hbo.reads HS.out).mono ?_); rintro e w8 ⟨rfl, hb8⟩)))
  all_goals
    have hb : Below w6.heap.size w6 w8 := by
      have h1 : Below w6.heap.size w6 w6.drew := (Below.refl _ _).drew
      exact (h1.trans hb7).trans (hb8.mono hb7.size)
    have h68 := hb.size
    clear hb7 hb8 hbo RD RX x0 x1 x2 y0 y1 y2 hlx hla
    have YXD := Lib.hid (XD.out.below hb)
    have YOW := Lib.hid (own_kept OW.out (fun b e => hb.block b (OW.out.lt b e).2))
    have YXX := Lib.hid (XX.out.below hb)
    have YOX := Lib.hid (OX.out.below hb)
    have YOG := Lib.hid (own_kept OG.out (fun b e => hb.block b (OG.out.lt b e).2))
    have YB := Lib.hid (B.out.trans (hb.mono B.out.size))
    clear XD OW XX OX OG B hb
    have XD := YXD
    clear YXD
    have OW := YOW
    clear YOW
    have XX := YXX
    clear YXX
    have OX := YOX
    clear YOX
    have OG := YOG
    clear YOG
    have B := YB
    clear YB
    obtain ⟨x0, x1, x2⟩ := XX.out.box.three
    go_wp2_with fail
    refine (markDisk_any _ _ _ d 1 w3.heap.size _ OX.out HS.out (by omega) (by omega)).mono ?_
    rintro e w9 ⟨rfl, _, ht⟩
    have YXD := Lib.hid (XD.out.past ht OX.out (by omega))
    have YOW := Lib.hid (own_kept OW.out (w' := w9) (fun b e => ht.block b (OW.out.lt b e).2 (OX.out.past (HWL.out b e))))
    have YOG := Lib.hid (own_kept OG.out (w' := w9) (fun b e => ht.block b (OG.out.lt b e).2 (XX.out.low.past (HGL.out b e))))
    have YB := Lib.hid (B.out.trans ((below_past ht OX.out (by omega)).mono (by omega)))
    clear XD OW OG B ht XX OX x0 x1 x2
    have XD := YXD
    have OW := YOW
    have OG := YOG
    have B := YB
    clear YXD YOW YOG YB
    have hm := dmend_small HS.out (k := 1) (by omega)
    obtain ⟨M, HM⟩ : ∃ M, Hid (dmend 1 d = M) := ⟨_, Lib.hid rfl⟩
    rw [HM.out] at hm
    rw [show 1 + d.s0.length + d.s1.length + 3 * d.late.length = M from HM.out]
    have hM0 : ¬ (M : Int) < 0 := by omega
    go_wp2_with fail
    refine (eqBookOpS_same _ _ zs _ (sl_of_own OG.out) (sl_of_own OW.out) (fun b e => (OG.out.lt b e).2) (fun b e => (OW.out.lt b e).2) (by omega)).mono ?_
    rintro e w10 ⟨rfl, hb⟩
    have YXD := Lib.hid (XD.out.below hb)
    have YOW := Lib.hid (own_kept OW.out (fun b e => hb.block b (OW.out.lt b e).2))
    have YOG := Lib.hid (own_kept OG.out (fun b e => hb.block b (OG.out.lt b e).2))
    have YB := Lib.hid (B.out.trans (hb.mono B.out.size))
    clear XD OW OG B hb
    have XD := YXD
    clear YXD
    have OW := YOW
    clear YOW
    have OG := YOG
    clear YOG
    have B := YB
    clear YB
    obtain ⟨N, HN⟩ : ∃ N, Hid (1 + 5 * zs.length = N) := ⟨_, Lib.hid rfl⟩
    have hN0 : ¬ (N : Int) < 0 := by omega
    go_wp2_with fail
    refine (markBookOpS_any _ zs.length 1 _ _ _ OG.out (by omega) (by omega) (by omega)).mono ?_
    rintro e w13 ⟨rfl, hog, ht⟩
    rw [HN.out]
    have YXD := Lib.hid (show Boxed w13 w.heap.size w.heap.size v0 v1 vl d from XD.out.keptD (fun b hb => ht.block b (by have := XD.out.box.lt; omega) (fun e => by have := HGL.out b e; omega)) ht.size)
    have YOW := Lib.hid (own_kept OW.out (w' := w13) (fun b e => ht.block b (OW.out.lt b e).2 (fun e' => by have := HWL.out b e; have := HGL.out b e'; omega)))
    have YOG := Lib.hid hog
    have YB := Lib.hid (B.out.trans (below_turnedL ht (fun b e => by have := HGL.out b e; omega) B.out.size))
    clear XD OW OG B ht hog
    have XD := YXD
    have OW := YOW
    have OG := YOG
    have B := YB
    clear YXD YOW YOG YB
    go_wp2_with fail
    refine (heldBookOpS_any _ zs.length 1 _ (sl_of_own OG.out) (fun b e => (OG.out.lt b e).2) (by omega) (by omega) (by omega)).mono ?_
    rintro e w14 ⟨rfl, hb⟩
    rw [HN.out]
    have YXD := Lib.hid (XD.out.below hb)
    have YOW := Lib.hid (own_kept OW.out (fun b e => hb.block b (OW.out.lt b e).2))
    have YOG := Lib.hid (own_kept OG.out (fun b e => hb.block b (OG.out.lt b e).2))
    have YB := Lib.hid (B.out.trans (hb.mono B.out.size))
    clear XD OW OG B hb
    have XD := YXD
    clear YXD
    have OW := YOW
    clear YOW
    have OG := YOG
    clear YOG
    have B := YB
    clear YB
    obtain ⟨x0, x1, x2⟩ := XD.out.box.three
    go_wp2_with fail
    refine (toDisk_any v0 v1 vl d _ XD.out.reads HS.out).mono ?_
    rintro e w15 ⟨a0, a1, al, rfl, ha, hb⟩
    have RA := Lib.hid ha.reads
    clear ha x0 x1 x2
    have YXD := Lib.hid (XD.out.below hb)
    have YOW := Lib.hid (own_kept OW.out (fun b e => hb.block b (OW.out.lt b e).2))
    have YOG := Lib.hid (own_kept OG.out (fun b e => hb.block b (OG.out.lt b e).2))
    have YB := Lib.hid (B.out.trans (hb.mono B.out.size))
    clear XD OW OG B hb
    have XD := YXD
    clear YXD
    have OW := YOW
    clear YOW
    have OG := YOG
    clear YOG
    have B := YB
    clear YB
    go_wp2_with fail
    refine (implLFind_any _ _ _ d t _ RA.out HS.out (HV.out.below B.out)).mono ?_
    rintro e w16 ⟨jv, ls, hf, rfl, hown, hb⟩
    rw [found_one hf HZ.out] at hown
    have OJ := Lib.hid hown
    obtain ⟨_, JA, jc, rfl, -, -, -⟩ := sl_of_own hown
    clear hown hf RA
    have YXD := Lib.hid (XD.out.below hb)
    have YOW := Lib.hid (own_kept OW.out (fun b e => hb.block b (OW.out.lt b e).2))
    have YOG := Lib.hid (own_kept OG.out (fun b e => hb.block b (OG.out.lt b e).2))
    have YB := Lib.hid (B.out.trans (hb.mono B.out.size))
    clear XD OW OG B hb
    have XD := YXD
    clear YXD
    have OW := YOW
    clear YOW
    have OG := YOG
    clear YOG
    have B := YB
    clear YB
    go_wp2_with fail
    refine (eqBookOpS_same _ _ zs _ (sl_of_own OJ.out) (sl_of_own OW.out) (fun b e => (OJ.out.lt b e).2) (fun b e => (OW.out.lt b e).2) (by omega)).mono ?_
    rintro e w17 ⟨rfl, hb⟩
    have YXD := Lib.hid (XD.out.below hb)
    have YOW := Lib.hid (own_kept OW.out (fun b e => hb.block b (OW.out.lt b e).2))
    have YOG := Lib.hid (own_kept OG.out (fun b e => hb.block b (OG.out.lt b e).2))
    have YB := Lib.hid (B.out.trans (hb.mono B.out.size))
    clear XD OW OG B hb
    have XD := YXD
    clear YXD
    have OW := YOW
    clear YOW
    have OG := YOG
    clear YOG
    have B := YB
    clear YB
    go_wp2_with fail
    refine (heldBookOpS_any _ zs.length 1 _ (sl_of_own OG.out) (fun b e => (OG.out.lt b e).2) (by omega) (by omega) (by omega)).mono ?_
    rintro e w18 ⟨rfl, hb⟩
    rw [HN.out]
    have YXD := Lib.hid (XD.out.below hb)
    have YOW := Lib.hid (own_kept OW.out (fun b e => hb.block b (OW.out.lt b e).2))
    have YOG := Lib.hid (own_kept OG.out (fun b e => hb.block b (OG.out.lt b e).2))
    have YB := Lib.hid (B.out.trans (hb.mono B.out.size))
    clear XD OW OG B hb
    have XD := YXD
    clear YXD
    have OW := YOW
    clear YOW
    have OG := YOG
    clear YOG
    have B := YB
    clear YB
    go_wp2
    go_ret
    exact ⟨rfl, B.out⟩
end Go.Proofs.YtgjlhokakcdpbaaGreatDoor
