/-
  A drawn pointer, and a drawn number with it.
-/
import Derived.Test.YtfcfgdpelbljnaaGreatDoorDraw3
import Derived.Test.YtfcfgdpelbljnaaGreatDoorDraws
import Derived.Test.YtfcfgdpelbljnaaGreatDoorPtrRds
import Derived.Test.YtfcfgdpelbljnaaGreatDoorRdOut
import Derived.Test.YtfcfgdpelbljnaaGreatDoorDisks
import Derived.Deep.RegionHeld3
set_option maxRecDepth 100000
namespace Go.Proofs.YtfcfgdpelbljnaaGreatDoor
open Go.ChangeShapes Go.WideShapes Go.ChangeAt Go.RowKit Go.Proofs.Palim

theorem toM_sum (at_ : Int) (text : ByteArray) (birth : Int) : 0 ≤ (toM at_ text birth).sum ∧ (toM at_ text birth).sum < 65521 := by
  unfold toM
  split
  · exact sumOf_bd text
  · exact ⟨Int.le_refl _, by show (0 : Int) < 65521; omega⟩
set_option maxHeartbeats 8000000 in
theorem l3Ptr_any (g k C : Nat) (v0 v1 vl : Value) (d : DiskM) (w : World) (hr : Rd w g k) (hk : k ≤ 900000) (ho : DiskOwn w C v0 v1 vl d) (hC : g < C) (hs : DiskShort d) :
    Calls Tryz.prog 14 #[.pointer (some ⟨g, 0, none⟩), .agg #[v0, v1, vl]] w fun e w' => ∃ q : PtrM, e = .returned (pv q) ∧ w.grownBy w' (some g) := by
  have hg := hr.lt
  have HS := Lib.hid hs
  obtain ⟨b1, b2, hsz, hB⟩ := box2 w #[v0, v1, vl] #[.int .i64 0, .int .i64 0, .int .i64 0] 32 24
  have XD0 := Lib.hid b1
  have X0 := Lib.hid b2
  have R0 := Lib.hid ((hr.alloc (.cells #[v0, v1, vl] 32)).alloc (.cells #[.int .i64 0, .int .i64 0, .int .i64 0] 24))
  have G0 := Lib.hid (grown_alloc (grown_alloc (World.grownBy.refl w (some g)) (.cells #[v0, v1, vl] 32)) (.cells #[.int .i64 0, .int .i64 0, .int .i64 0] 24))
  have O0 := Lib.hid (ho.below hB)
  have hw0 : w.heap.size + 2 ≤ ((w.alloc (.cells #[v0, v1, vl] 32)).alloc (.cells #[.int .i64 0, .int .i64 0, .int .i64 0] 24)).heap.size := by rw [hsz]; omega
  clear b1 b2 hsz hB hr ho hs
  go_enter Tryz.func14, Tryz.ntmps14
  go_wp2_with fail
  refine (pickO g k 7 _ R0.out (by omega) (by omega) (by omega)).mono ?_
  rintro e w1 ⟨p1, hp1, rfl, hg1, hr1⟩
  have XD1 := Lib.hid (box_grownR XD0.out hg1 (by omega))
  have X1 := Lib.hid (box_grownR X0.out hg1 (by omega))
  have R1 := Lib.hid hr1
  have G1 := Lib.hid (grownR_trans G0.out hg1)
  have O1 := Lib.hid (O0.out.grownG hg1 hC)
  have hw1 : w.heap.size + 2 ≤ w1.heap.size := Nat.le_trans hw0 hg1.size
  clear hg1 hr1 XD0 X0 R0 G0 O0 hw0
  obtain ⟨x0, x1, x2⟩ := XD1.out.three
  go_wp2_with fail
  go_region_held3 (fun w' => w'.cell? ⟨w.heap.size, 0, none⟩ = some v0 ∧ w'.cell? ⟨w.heap.size, 1, none⟩ = some v1 ∧ w'.cell? ⟨w.heap.size, 2, none⟩ = some vl)
    (first
      | exact ⟨x0, x1, x2⟩
      | exact ⟨((box_grownR XD1.out.drew hg2 (by omega)).below hb3 (Box.lt (box_grownR XD1.out.drew hg2 (by omega)))).cell 0 rfl, ((box_grownR XD1.out.drew hg2 (by omega)).below hb3 (Box.lt (box_grownR XD1.out.drew hg2 (by omega)))).cell 1 rfl, ((box_grownR XD1.out.drew hg2 (by omega)).below hb3 (Box.lt (box_grownR XD1.out.drew hg2 (by omega)))).cell 2 rfl⟩
      | exact ⟨(box_grownR XD1.out.drew hg2 (by omega)).cell 0 rfl, (box_grownR XD1.out.drew hg2 (by omega)).cell 1 rfl, (box_grownR XD1.out.drew hg2 (by omega)).cell 2 rfl⟩)
    (first
      | (go_at_call 36; ((refine (pickO g (k + 1) 2 w1.drew (R1.out.kept (fun _ _ => rfl)) (by omega) (by omega) (by omega)).mono ?_); rintro e w2 ⟨p2, hp2, rfl, hg2, hr2⟩))
      | (go_at_call 37; ((refine (DiskRead_any _ _ _ d (p2 : Int) (p1 : Int) _ ((O1.out.kept (w' := w1.drew) (fun _ _ _ => rfl)).grownG hg2 hC).reads HS.out).mono ?_); rintro e w3 ⟨rfl, hb3⟩)))
  have X3 := Lib.hid ((box_grownR X1.out.drew hg2 (by omega)).below hb3 (Box.lt (box_grownR X1.out.drew hg2 (by omega))))
  have R3 := Lib.hid (hr2.belowR hb3)
  have hgg : w.grownBy w1.drew (some g) := ⟨G1.out.os, G1.out.tape, G1.out.output, G1.out.size, G1.out.block⟩
  have G3 := Lib.hid (grownR_below (grownR_trans hgg hg2) (hb3.mono (by have := hg2.size; have := hgg.size; omega)))
  have hw3 : w.heap.size + 2 ≤ w3.heap.size := Nat.le_trans hw1 (Nat.le_trans hg2.size hb3.size)
  obtain ⟨tx, HTX⟩ : ∃ tx, Hid (readOut d (p2 : Int) (p1 : Int) = tx) := ⟨_, Lib.hid rfl⟩
  have htx : tx.size ≤ 420 := by rw [← HTX.out]; exact readOut_le _ _ _
  rw [HTX.out]
  clear hg2 hr2 hb3 hgg XD1 X1 R1 G1 O1 hw1 x0 x1 x2 HTX
  go_wp2_with fail
  refine (pickO g (k + 1 + 1) 9 _ R3.out (by omega) (by omega) (by omega)).mono ?_
  rintro e w4 ⟨p4, hp4, rfl, hg4, hr4⟩
  have X4 := Lib.hid (box_grownR X3.out hg4 (by omega))
  have R4 := Lib.hid hr4
  have G4 := Lib.hid (grownR_trans G3.out hg4)
  have hw4 : w.heap.size + 2 ≤ w4.heap.size := Nat.le_trans hw3 hg4.size
  clear hg4 hr4 X3 R3 G3 hw3
  go_wp2_with fail
  refine (specBlkTo_any (p1 : Int) tx (p4 : Int) _ (by unfold maxLen; omega)).mono ?_
  rintro e w5 ⟨rfl, hb5⟩
  have hsum := toM_sum (p1 : Int) tx (p4 : Int)
  generalize toM (p1 : Int) tx (p4 : Int) = p at hsum ⊢
  have hn5 := Below.new (w := w5) (.cells #[.int .i64 p.at_, .int .i64 p.sum, .int .i64 p.birth] 24)
  have X5 := Lib.hid ((X4.out.below hb5 X4.out.lt).below hn5 (Box.lt (X4.out.below hb5 X4.out.lt)))
  have Y5 := Lib.hid (box_new w5 #[.int .i64 p.at_, .int .i64 p.sum, .int .i64 p.birth] 24)
  have R5 := Lib.hid ((R4.out.belowR hb5).belowR hn5)
  have G5 := Lib.hid (grownR_below (grownR_below G4.out (hb5.mono (by omega))) (hn5.mono (by have := hb5.size; omega)))
  have hw5 : w.heap.size + 2 ≤ w5.heap.size := Nat.le_trans hw4 hb5.size
  have hw5' : w5.heap.size < (w5.alloc (.cells #[.int .i64 p.at_, .int .i64 p.sum, .int .i64 p.birth] 24)).heap.size := by simp
  clear hb5 hn5 X4 R4 G4 hw4
  go_wp2_with fail
  refine (pickO g (k + 1 + 1 + 1) 12 _ R5.out (by omega) (by omega) (by omega)).mono ?_
  rintro e w6 ⟨j, hj, rfl, hg6, hr6⟩
  have X6 := Lib.hid (box_grownR X5.out hg6 (by omega))
  have Y6 := Lib.hid (box_grownR Y5.out hg6 (by omega))
  have R6 := Lib.hid hr6
  have G6 := Lib.hid (grownR_trans G5.out hg6)
  have hw6 : w5.heap.size < w6.heap.size := Nat.lt_of_lt_of_le hw5' hg6.size
  clear hg6 hr6 X5 Y5 R5 G5 hw5'
  rcases (show j = 0 ∨ j = 1 ∨ j = 2 ∨ j = 3 ∨ 4 ≤ j by omega) with rfl | rfl | rfl | rfl | h4
  · have hway : True := trivial
    go_wp2_with fail
    have hX0 := X6.out.drew
    have hY0 := Y6.out.drew
    have hR0 : Rd w6.drew g (k + 1 + 1 + 1 + 1) := R6.out.kept (fun _ _ => rfl)
    have hG0 : w.grownBy w6.drew (some g) := ⟨G6.out.os, G6.out.tape, G6.out.output, G6.out.size, G6.out.block⟩
    have hz0 : w5.heap.size < w6.drew.heap.size := hw6
    refine wp_region_held_drew (S := fun _ => True) (by kernel_rfl) trivial (fun hHeld => ?_)
    generalize w6.drew = wd at hX0 hY0 hR0 hG0 hz0 ⊢
    refine wpAnyH_take (i := 0) (v := ?_) rfl (by kernel_rfl) (by kernel_rfl) (by kernel_rfl) (fun _ _ _ h => h) (Or.inl ⟨by rfl, ?_⟩) (by assumption) ?_
    rotate_left
    · (intro w' hSw; go_simp; try with_reducible rfl)
    try simp only [Act.put]
    refine wpAnyH_take (i := 2) (v := ?_) rfl (by kernel_rfl) (by kernel_rfl) (by kernel_rfl) (fun _ _ _ h => h) (Or.inl ⟨by rfl, ?_⟩) (by assumption) ?_
    rotate_left
    · (intro w' hSw; go_simp; try with_reducible rfl)
    try simp only [Act.put]
    refine wpAnyH_ready (rs := [1, 3]) (by kernel_rfl) (by simp) ?_
    refine AllReadyH.cons rfl (fun K hK => ?_) (AllReadyH.cons rfl (fun K hK => ?_) (AllReadyH.nil))
    · have hway : True := trivial
      have a1 := Box.cell hY0 1 rfl
      go_simp
      refine hK.out _ _ trivial (fun hHeld1 => ?_)
      clear hK K
      try simp only [Act.put]
      refine wpAnyH_ready (rs := [3]) (by kernel_rfl) (by simp) ?_
      refine AllReadyH.cons rfl (fun K hK => ?_) (AllReadyH.nil)
      have hX2 := Box.alloc hX0 (.cells (ics [1, -1, 65521]).toArray 3)
      have hY2 := Box.alloc hY0 (.cells (ics [1, -1, 65521]).toArray 3)
      have hR2 := Rd.alloc hR0 (.cells (ics [1, -1, 65521]).toArray 3)
      have hG2 := grown_alloc hG0 (.cells (ics [1, -1, 65521]).toArray 3)
      have hA : (wd.alloc (.cells (ics [1, -1, 65521]).toArray 3)).heap[wd.heap.size]? = some (.cells (ics [1, -1, 65521]).toArray 3 (0, 0)) := heap_alloc_new _ _
      have hne : wd.heap.size ≠ g := by have := Rd.lt hR0; omega
      have hz2 : w5.heap.size < (wd.alloc (.cells (ics [1, -1, 65521]).toArray 3)).heap.size := by simp; omega
      go_simp
      refine hK.out _ _ trivial (fun hHeld2 => ?_)
      clear hK K
      try simp only [Act.put]
      try (change wpAnyH _ _ _ _ _ _ _ _ (wd.alloc (.cells (ics [1, -1, 65521]).toArray 3)))
      generalize wd.alloc (.cells (ics [1, -1, 65521]).toArray 3) = wa2 at hX2 hY2 hR2 hG2 hz2 hA ⊢
      refine wpAnyH_ready (rs := [4]) (by kernel_rfl) (by simp) ?_
      refine AllReadyH.cons rfl (fun K hK => ?_) (AllReadyH.nil)
      go_simp
      go_at_call 13
      refine (numO g (k + 1 + 1 + 1 + 1) (wd.heap.size) 3 [1, -1, 65521] 3 (0, 0) _ hR2 (by omega) hA hne rfl (by omega) (by omega)).mono ?_
      rintro e wt3 ⟨v7, hv7, rfl, hg3, hr3⟩
      have hX3 := box_grownR hX2 hg3 (by omega)
      have hY3 := box_grownR hY2 hg3 (by omega)
      have hG3 := grownR_trans hG2 hg3
      have hz3 := Nat.lt_of_lt_of_le hz2 hg3.size
      have hvb : -1 ≤ v7 ∧ v7 ≤ 65521 := by simp only [List.mem_cons, List.not_mem_nil, or_false] at hv7; omega
      have ew : IntKind.i64.wrap (p.sum + v7) = p.sum + v7 := IntWalk.i64_in _ (by omega)
      go_wp2_with fail
      refine hK.out _ _ trivial (fun hHeld3 => ?_)
      clear hK K
      try simp only [Act.put]
      refine wpAnyH_take (i := 5) (v := ?_) rfl (by kernel_rfl) (by kernel_rfl) (by kernel_rfl) (fun _ _ _ h => h) (Or.inl ⟨by rfl, ?_⟩) (by assumption) ?_
      rotate_left
      · (intro w' hSw; go_simp; try with_reducible rfl)
      try simp only [Act.put]
      refine wpAnyH_take (i := 6) (v := ?_) rfl (by kernel_rfl) (by kernel_rfl) (by kernel_rfl) (fun _ _ _ h => h) (Or.inl ⟨by rfl, ?_⟩) (by assumption) ?_
      rotate_left
      · (intro w' hSw; go_simp; try with_reducible rfl)
      try simp only [Act.put]
      refine wpAnyH_ready (rs := [7]) (by kernel_rfl) (by simp) ?_
      refine AllReadyH.cons rfl (fun K hK => ?_) (AllReadyH.nil)
      have a1 := Box.cell hY3 1 rfl
      have fa := Box.open_ hY3 1
      have hYF : Box (wt3.setCell ⟨w5.heap.size, 1, none⟩ (.int .i64 (p.sum + v7))) w5.heap.size [.int .i64 p.at_, .int .i64 (p.sum + v7), .int .i64 p.birth] := Box.set hY3 1 (.int .i64 (p.sum + v7))
      have hXF := Box.other hX3 (p := ⟨w5.heap.size, 1, none⟩) (by simp; omega) (.int .i64 (p.sum + v7))
      have hGF := grownR_set hG3 (show w.heap.size ≤ w5.heap.size by omega) 1 (.int .i64 (p.sum + v7))
      go_simp
      refine hK.out _ _ trivial (fun hHeld4 => ?_)
      clear hK K
      try simp only [Act.put]
      try (change wpAnyH _ _ _ _ _ _ _ _ (wt3.setCell ⟨w5.heap.size, 1, none⟩ (.int .i64 (p.sum + v7))))
      generalize (wt3.setCell ⟨w5.heap.size, 1, none⟩ (.int .i64 (p.sum + v7))) = wF at hYF hXF hGF ⊢
      refine wpAnyH_done (by kernel_rfl) ?_ _
      go_simp
      have XF := Lib.hid hXF
      have YF := Lib.hid hYF
      have GF := Lib.hid hGF
      have a0 := YF.out.cell 0 rfl
      have a1 := YF.out.cell 1 rfl
      have a2 := YF.out.cell 2 rfl
      have c0 := XF.out.cell 0 rfl
      have c1 := XF.out.cell 1 rfl
      have c2 := XF.out.cell 2 rfl
      have f0 := XF.out.open_ 0
      have f1 := XF.out.open_ 1
      have f2 := XF.out.open_ 2
      have XE := Lib.hid (show Box _ (w.heap.size + 1) [.int .i64 p.at_, .int .i64 (p.sum + v7), .int .i64 p.birth] from (((XF.out.set 0 (.int .i64 p.at_)).set 1 (.int .i64 (p.sum + v7))).set 2 (.int .i64 p.birth)))
      have GE := Lib.hid (grownR_set (grownR_set (grownR_set GF.out (Nat.le_succ _) 0 (.int .i64 p.at_)) (Nat.le_succ _) 1 (.int .i64 (p.sum + v7))) (Nat.le_succ _) 2 (.int .i64 p.birth))
      go_wp2
      have y0 := XE.out.cell 0 rfl
      have y1 := XE.out.cell 1 rfl
      have y2 := XE.out.cell 2 rfl
      refine bodyPost_ret (v := pv ⟨p.at_, p.sum + v7, p.birth⟩) ?_ rfl ⟨_, rfl, GE.out⟩
      simp [results, Tryz.results14, go_sem, y0, y1, y2]
    · have hway : True := trivial
      have hX1 := Box.alloc hX0 (.cells (ics [1, -1, 65521]).toArray 3)
      have hY1 := Box.alloc hY0 (.cells (ics [1, -1, 65521]).toArray 3)
      have hR1 := Rd.alloc hR0 (.cells (ics [1, -1, 65521]).toArray 3)
      have hG1 := grown_alloc hG0 (.cells (ics [1, -1, 65521]).toArray 3)
      have hA : (wd.alloc (.cells (ics [1, -1, 65521]).toArray 3)).heap[wd.heap.size]? = some (.cells (ics [1, -1, 65521]).toArray 3 (0, 0)) := heap_alloc_new _ _
      have hne : wd.heap.size ≠ g := by have := Rd.lt hR0; omega
      have hz1 : w5.heap.size < (wd.alloc (.cells (ics [1, -1, 65521]).toArray 3)).heap.size := by simp; omega
      go_simp
      refine hK.out _ _ trivial (fun hHeld1 => ?_)
      clear hK K
      try simp only [Act.put]
      try (change wpAnyH _ _ _ _ _ _ _ _ (wd.alloc (.cells (ics [1, -1, 65521]).toArray 3)))
      generalize wd.alloc (.cells (ics [1, -1, 65521]).toArray 3) = wa1 at hX1 hY1 hR1 hG1 hz1 hA ⊢
      refine wpAnyH_ready (rs := [1, 4]) (by kernel_rfl) (by simp) ?_
      refine AllReadyH.cons rfl (fun K hK => ?_) (AllReadyH.cons rfl (fun K hK => ?_) (AllReadyH.nil))
      · have hway : True := trivial
        have a1 := Box.cell hY1 1 rfl
        go_simp
        refine hK.out _ _ trivial (fun hHeld2 => ?_)
        clear hK K
        try simp only [Act.put]
        refine wpAnyH_ready (rs := [4]) (by kernel_rfl) (by simp) ?_
        refine AllReadyH.cons rfl (fun K hK => ?_) (AllReadyH.nil)
        go_simp
        go_at_call 13
        refine (numO g (k + 1 + 1 + 1 + 1) (wd.heap.size) 3 [1, -1, 65521] 3 (0, 0) _ hR1 (by omega) hA hne rfl (by omega) (by omega)).mono ?_
        rintro e wt3 ⟨v7, hv7, rfl, hg3, hr3⟩
        have hX3 := box_grownR hX1 hg3 (by omega)
        have hY3 := box_grownR hY1 hg3 (by omega)
        have hG3 := grownR_trans hG1 hg3
        have hz3 := Nat.lt_of_lt_of_le hz1 hg3.size
        have hvb : -1 ≤ v7 ∧ v7 ≤ 65521 := by simp only [List.mem_cons, List.not_mem_nil, or_false] at hv7; omega
        have ew : IntKind.i64.wrap (p.sum + v7) = p.sum + v7 := IntWalk.i64_in _ (by omega)
        go_wp2_with fail
        refine hK.out _ _ trivial (fun hHeld3 => ?_)
        clear hK K
        try simp only [Act.put]
        refine wpAnyH_take (i := 5) (v := ?_) rfl (by kernel_rfl) (by kernel_rfl) (by kernel_rfl) (fun _ _ _ h => h) (Or.inl ⟨by rfl, ?_⟩) (by assumption) ?_
        rotate_left
        · (intro w' hSw; go_simp; try with_reducible rfl)
        try simp only [Act.put]
        refine wpAnyH_take (i := 6) (v := ?_) rfl (by kernel_rfl) (by kernel_rfl) (by kernel_rfl) (fun _ _ _ h => h) (Or.inl ⟨by rfl, ?_⟩) (by assumption) ?_
        rotate_left
        · (intro w' hSw; go_simp; try with_reducible rfl)
        try simp only [Act.put]
        refine wpAnyH_ready (rs := [7]) (by kernel_rfl) (by simp) ?_
        refine AllReadyH.cons rfl (fun K hK => ?_) (AllReadyH.nil)
        have a1 := Box.cell hY3 1 rfl
        have fa := Box.open_ hY3 1
        have hYF : Box (wt3.setCell ⟨w5.heap.size, 1, none⟩ (.int .i64 (p.sum + v7))) w5.heap.size [.int .i64 p.at_, .int .i64 (p.sum + v7), .int .i64 p.birth] := Box.set hY3 1 (.int .i64 (p.sum + v7))
        have hXF := Box.other hX3 (p := ⟨w5.heap.size, 1, none⟩) (by simp; omega) (.int .i64 (p.sum + v7))
        have hGF := grownR_set hG3 (show w.heap.size ≤ w5.heap.size by omega) 1 (.int .i64 (p.sum + v7))
        go_simp
        refine hK.out _ _ trivial (fun hHeld4 => ?_)
        clear hK K
        try simp only [Act.put]
        try (change wpAnyH _ _ _ _ _ _ _ _ (wt3.setCell ⟨w5.heap.size, 1, none⟩ (.int .i64 (p.sum + v7))))
        generalize (wt3.setCell ⟨w5.heap.size, 1, none⟩ (.int .i64 (p.sum + v7))) = wF at hYF hXF hGF ⊢
        refine wpAnyH_done (by kernel_rfl) ?_ _
        go_simp
        have XF := Lib.hid hXF
        have YF := Lib.hid hYF
        have GF := Lib.hid hGF
        have a0 := YF.out.cell 0 rfl
        have a1 := YF.out.cell 1 rfl
        have a2 := YF.out.cell 2 rfl
        have c0 := XF.out.cell 0 rfl
        have c1 := XF.out.cell 1 rfl
        have c2 := XF.out.cell 2 rfl
        have f0 := XF.out.open_ 0
        have f1 := XF.out.open_ 1
        have f2 := XF.out.open_ 2
        have XE := Lib.hid (show Box _ (w.heap.size + 1) [.int .i64 p.at_, .int .i64 (p.sum + v7), .int .i64 p.birth] from (((XF.out.set 0 (.int .i64 p.at_)).set 1 (.int .i64 (p.sum + v7))).set 2 (.int .i64 p.birth)))
        have GE := Lib.hid (grownR_set (grownR_set (grownR_set GF.out (Nat.le_succ _) 0 (.int .i64 p.at_)) (Nat.le_succ _) 1 (.int .i64 (p.sum + v7))) (Nat.le_succ _) 2 (.int .i64 p.birth))
        go_wp2
        have y0 := XE.out.cell 0 rfl
        have y1 := XE.out.cell 1 rfl
        have y2 := XE.out.cell 2 rfl
        refine bodyPost_ret (v := pv ⟨p.at_, p.sum + v7, p.birth⟩) ?_ rfl ⟨_, rfl, GE.out⟩
        simp [results, Tryz.results14, go_sem, y0, y1, y2]
      · have hway : True := trivial
        go_simp
        go_at_call 13
        refine (numO g (k + 1 + 1 + 1 + 1) (wd.heap.size) 3 [1, -1, 65521] 3 (0, 0) _ hR1 (by omega) hA hne rfl (by omega) (by omega)).mono ?_
        rintro e wt2 ⟨v7, hv7, rfl, hg2, hr2⟩
        have hX2 := box_grownR hX1 hg2 (by omega)
        have hY2 := box_grownR hY1 hg2 (by omega)
        have hG2 := grownR_trans hG1 hg2
        have hz2 := Nat.lt_of_lt_of_le hz1 hg2.size
        have hvb : -1 ≤ v7 ∧ v7 ≤ 65521 := by simp only [List.mem_cons, List.not_mem_nil, or_false] at hv7; omega
        have ew : IntKind.i64.wrap (p.sum + v7) = p.sum + v7 := IntWalk.i64_in _ (by omega)
        go_wp2_with fail
        refine hK.out _ _ trivial (fun hHeld2 => ?_)
        clear hK K
        try simp only [Act.put]
        refine wpAnyH_ready (rs := [1]) (by kernel_rfl) (by simp) ?_
        refine AllReadyH.cons rfl (fun K hK => ?_) (AllReadyH.nil)
        have a1 := Box.cell hY2 1 rfl
        go_simp
        refine hK.out _ _ trivial (fun hHeld3 => ?_)
        clear hK K
        try simp only [Act.put]
        refine wpAnyH_take (i := 5) (v := ?_) rfl (by kernel_rfl) (by kernel_rfl) (by kernel_rfl) (fun _ _ _ h => h) (Or.inl ⟨by rfl, ?_⟩) (by assumption) ?_
        rotate_left
        · (intro w' hSw; go_simp; try with_reducible rfl)
        try simp only [Act.put]
        refine wpAnyH_take (i := 6) (v := ?_) rfl (by kernel_rfl) (by kernel_rfl) (by kernel_rfl) (fun _ _ _ h => h) (Or.inl ⟨by rfl, ?_⟩) (by assumption) ?_
        rotate_left
        · (intro w' hSw; go_simp; try with_reducible rfl)
        try simp only [Act.put]
        refine wpAnyH_ready (rs := [7]) (by kernel_rfl) (by simp) ?_
        refine AllReadyH.cons rfl (fun K hK => ?_) (AllReadyH.nil)
        have a1 := Box.cell hY2 1 rfl
        have fa := Box.open_ hY2 1
        have hYF : Box (wt2.setCell ⟨w5.heap.size, 1, none⟩ (.int .i64 (p.sum + v7))) w5.heap.size [.int .i64 p.at_, .int .i64 (p.sum + v7), .int .i64 p.birth] := Box.set hY2 1 (.int .i64 (p.sum + v7))
        have hXF := Box.other hX2 (p := ⟨w5.heap.size, 1, none⟩) (by simp; omega) (.int .i64 (p.sum + v7))
        have hGF := grownR_set hG2 (show w.heap.size ≤ w5.heap.size by omega) 1 (.int .i64 (p.sum + v7))
        go_simp
        refine hK.out _ _ trivial (fun hHeld4 => ?_)
        clear hK K
        try simp only [Act.put]
        try (change wpAnyH _ _ _ _ _ _ _ _ (wt2.setCell ⟨w5.heap.size, 1, none⟩ (.int .i64 (p.sum + v7))))
        generalize (wt2.setCell ⟨w5.heap.size, 1, none⟩ (.int .i64 (p.sum + v7))) = wF at hYF hXF hGF ⊢
        refine wpAnyH_done (by kernel_rfl) ?_ _
        go_simp
        have XF := Lib.hid hXF
        have YF := Lib.hid hYF
        have GF := Lib.hid hGF
        have a0 := YF.out.cell 0 rfl
        have a1 := YF.out.cell 1 rfl
        have a2 := YF.out.cell 2 rfl
        have c0 := XF.out.cell 0 rfl
        have c1 := XF.out.cell 1 rfl
        have c2 := XF.out.cell 2 rfl
        have f0 := XF.out.open_ 0
        have f1 := XF.out.open_ 1
        have f2 := XF.out.open_ 2
        have XE := Lib.hid (show Box _ (w.heap.size + 1) [.int .i64 p.at_, .int .i64 (p.sum + v7), .int .i64 p.birth] from (((XF.out.set 0 (.int .i64 p.at_)).set 1 (.int .i64 (p.sum + v7))).set 2 (.int .i64 p.birth)))
        have GE := Lib.hid (grownR_set (grownR_set (grownR_set GF.out (Nat.le_succ _) 0 (.int .i64 p.at_)) (Nat.le_succ _) 1 (.int .i64 (p.sum + v7))) (Nat.le_succ _) 2 (.int .i64 p.birth))
        go_wp2
        have y0 := XE.out.cell 0 rfl
        have y1 := XE.out.cell 1 rfl
        have y2 := XE.out.cell 2 rfl
        refine bodyPost_ret (v := pv ⟨p.at_, p.sum + v7, p.birth⟩) ?_ rfl ⟨_, rfl, GE.out⟩
        simp [results, Tryz.results14, go_sem, y0, y1, y2]
  · have R6a := Lib.hid (R6.out.alloc (.cells (ics [0, 119, 120, -1]).toArray 3))
    have X6a := Lib.hid (X6.out.alloc (.cells (ics [0, 119, 120, -1]).toArray 3))
    have Y6a := Lib.hid (Y6.out.alloc (.cells (ics [0, 119, 120, -1]).toArray 3))
    have G6a := Lib.hid (grown_alloc G6.out (.cells (ics [0, 119, 120, -1]).toArray 3))
    go_wp2_with fail
    refine (numO g (k + 1 + 1 + 1 + 1) w6.heap.size 4 [0, 119, 120, -1] 3 (0, 0) _ R6a.out (by omega) (heap_alloc_new w6 _) (by omega) rfl (by omega) (by omega)).mono ?_
    rintro e w7 ⟨v7, hv7, rfl, hg7, hr7⟩
    have X7 := Lib.hid (box_grownR X6a.out hg7 (by omega))
    have Y7 := Lib.hid (box_grownR Y6a.out hg7 (by omega))
    have G7 := Lib.hid (grownR_trans G6a.out hg7)
    clear hg7 hr7 hv7 X6a Y6a R6a G6a X6 Y6 R6 G6
    have cc := Y7.out.cell 0 rfl
    have ff := Y7.out.open_ 0
    have Y8 := Lib.hid (show Box _ w5.heap.size [.int .i64 v7, .int .i64 p.sum, .int .i64 p.birth] from Y7.out.set 0 (.int .i64 v7))
    have X8 := Lib.hid (X7.out.other (p := ⟨w5.heap.size, 0, none⟩) (by simp; omega) (.int .i64 v7))
    have G8 := Lib.hid (grownR_set G7.out (show w.heap.size ≤ w5.heap.size by omega) 0 (.int .i64 v7))
    clear X7 Y7 G7
    have a0 := Y8.out.cell 0 rfl
    have a1 := Y8.out.cell 1 rfl
    have a2 := Y8.out.cell 2 rfl
    have c0 := X8.out.cell 0 rfl
    have c1 := X8.out.cell 1 rfl
    have c2 := X8.out.cell 2 rfl
    have f0 := X8.out.open_ 0
    have f1 := X8.out.open_ 1
    have f2 := X8.out.open_ 2
    have XE := Lib.hid (show Box _ (w.heap.size + 1) [.int .i64 v7, .int .i64 p.sum, .int .i64 p.birth] from (((X8.out.set 0 (.int .i64 v7)).set 1 (.int .i64 p.sum)).set 2 (.int .i64 p.birth)))
    have GE := Lib.hid (grownR_set (grownR_set (grownR_set G8.out (Nat.le_succ _) 0 (.int .i64 v7)) (Nat.le_succ _) 1 (.int .i64 p.sum)) (Nat.le_succ _) 2 (.int .i64 p.birth))
    go_wp2
    have y0 := XE.out.cell 0 rfl
    have y1 := XE.out.cell 1 rfl
    have y2 := XE.out.cell 2 rfl
    refine bodyPost_ret (v := pv ⟨v7, p.sum, p.birth⟩) ?_ rfl ⟨_, rfl, GE.out⟩
    simp [results, Tryz.results14, go_sem, y0, y1, y2]
  · have R6a := Lib.hid (R6.out.alloc (.cells (ics [-1, 1000000, 1000001]).toArray 3))
    have X6a := Lib.hid (X6.out.alloc (.cells (ics [-1, 1000000, 1000001]).toArray 3))
    have Y6a := Lib.hid (Y6.out.alloc (.cells (ics [-1, 1000000, 1000001]).toArray 3))
    have G6a := Lib.hid (grown_alloc G6.out (.cells (ics [-1, 1000000, 1000001]).toArray 3))
    go_wp2_with fail
    refine (numO g (k + 1 + 1 + 1 + 1) w6.heap.size 3 [-1, 1000000, 1000001] 3 (0, 0) _ R6a.out (by omega) (heap_alloc_new w6 _) (by omega) rfl (by omega) (by omega)).mono ?_
    rintro e w7 ⟨v7, hv7, rfl, hg7, hr7⟩
    have X7 := Lib.hid (box_grownR X6a.out hg7 (by omega))
    have Y7 := Lib.hid (box_grownR Y6a.out hg7 (by omega))
    have G7 := Lib.hid (grownR_trans G6a.out hg7)
    clear hg7 hr7 hv7 X6a Y6a R6a G6a X6 Y6 R6 G6
    have cc := Y7.out.cell 2 rfl
    have ff := Y7.out.open_ 2
    have Y8 := Lib.hid (show Box _ w5.heap.size [.int .i64 p.at_, .int .i64 p.sum, .int .i64 v7] from Y7.out.set 2 (.int .i64 v7))
    have X8 := Lib.hid (X7.out.other (p := ⟨w5.heap.size, 2, none⟩) (by simp; omega) (.int .i64 v7))
    have G8 := Lib.hid (grownR_set G7.out (show w.heap.size ≤ w5.heap.size by omega) 2 (.int .i64 v7))
    clear X7 Y7 G7
    have a0 := Y8.out.cell 0 rfl
    have a1 := Y8.out.cell 1 rfl
    have a2 := Y8.out.cell 2 rfl
    have c0 := X8.out.cell 0 rfl
    have c1 := X8.out.cell 1 rfl
    have c2 := X8.out.cell 2 rfl
    have f0 := X8.out.open_ 0
    have f1 := X8.out.open_ 1
    have f2 := X8.out.open_ 2
    have XE := Lib.hid (show Box _ (w.heap.size + 1) [.int .i64 p.at_, .int .i64 p.sum, .int .i64 v7] from (((X8.out.set 0 (.int .i64 p.at_)).set 1 (.int .i64 p.sum)).set 2 (.int .i64 v7)))
    have GE := Lib.hid (grownR_set (grownR_set (grownR_set G8.out (Nat.le_succ _) 0 (.int .i64 p.at_)) (Nat.le_succ _) 1 (.int .i64 p.sum)) (Nat.le_succ _) 2 (.int .i64 v7))
    go_wp2
    have y0 := XE.out.cell 0 rfl
    have y1 := XE.out.cell 1 rfl
    have y2 := XE.out.cell 2 rfl
    refine bodyPost_ret (v := pv ⟨p.at_, p.sum, v7⟩) ?_ rfl ⟨_, rfl, GE.out⟩
    simp [results, Tryz.results14, go_sem, y0, y1, y2]
  · have hway : True := trivial
    have c0 := X6.out.cell 0 rfl
    have c1 := X6.out.cell 1 rfl
    have c2 := X6.out.cell 2 rfl
    have f0 := X6.out.open_ 0
    have f1 := X6.out.open_ 1
    have f2 := X6.out.open_ 2
    have XE := Lib.hid (show Box _ (w.heap.size + 1) [.int .i64 0, .int .i64 0, .int .i64 0] from (((X6.out.set 0 (.int .i64 0)).set 1 (.int .i64 0)).set 2 (.int .i64 0)))
    have GE := Lib.hid (grownR_set (grownR_set (grownR_set G6.out (Nat.le_succ _) 0 (.int .i64 0)) (Nat.le_succ _) 1 (.int .i64 0)) (Nat.le_succ _) 2 (.int .i64 0))
    go_wp2
    have y0 := XE.out.cell 0 rfl
    have y1 := XE.out.cell 1 rfl
    have y2 := XE.out.cell 2 rfl
    refine bodyPost_ret (v := pv noPtr) ?_ rfl ⟨_, rfl, GE.out⟩
    simp [results, Tryz.results14, go_sem, y0, y1, y2, noPtr]
  · have hway : True := trivial
    have hj0 : ((j : Int) == 0) = false := beq_eq_false_iff_ne.2 (by omega)
    have hj1 : ((j : Int) == 1) = false := beq_eq_false_iff_ne.2 (by omega)
    have hj2 : ((j : Int) == 2) = false := beq_eq_false_iff_ne.2 (by omega)
    have hj3 : ((j : Int) == 3) = false := beq_eq_false_iff_ne.2 (by omega)
    have a0 := Y6.out.cell 0 rfl
    have a1 := Y6.out.cell 1 rfl
    have a2 := Y6.out.cell 2 rfl
    have c0 := X6.out.cell 0 rfl
    have c1 := X6.out.cell 1 rfl
    have c2 := X6.out.cell 2 rfl
    have f0 := X6.out.open_ 0
    have f1 := X6.out.open_ 1
    have f2 := X6.out.open_ 2
    have XE := Lib.hid (show Box _ (w.heap.size + 1) [.int .i64 p.at_, .int .i64 p.sum, .int .i64 p.birth] from (((X6.out.set 0 (.int .i64 p.at_)).set 1 (.int .i64 p.sum)).set 2 (.int .i64 p.birth)))
    have GE := Lib.hid (grownR_set (grownR_set (grownR_set G6.out (Nat.le_succ _) 0 (.int .i64 p.at_)) (Nat.le_succ _) 1 (.int .i64 p.sum)) (Nat.le_succ _) 2 (.int .i64 p.birth))
    go_wp2
    have y0 := XE.out.cell 0 rfl
    have y1 := XE.out.cell 1 rfl
    have y2 := XE.out.cell 2 rfl
    refine bodyPost_ret (v := pv p) ?_ rfl ⟨_, rfl, GE.out⟩
    simp [results, Tryz.results14, go_sem, y0, y1, y2]
set_option maxHeartbeats 2000000 in
theorem drawCoreUber_any (A : Option Addr) (n c : Nat) (w : World) (h : Code w A n c) :
    Calls Tryz.prog 4 #[.slice A n c] w fun e w' => ∃ (x : Int) (p : PtrM), e = .returned (.tuple #[.int .i64 x, pv p]) ∧ Below w.heap.size w w' := by
  have X0 := Lib.hid (box_new w #[.int .i64 0, .int .i64 0, .int .i64 0] 24)
  have hn0 := Below.new (w := w) (.cells #[.int .i64 0, .int .i64 0, .int .i64 0] 24)
  have B0 := Lib.hid hn0
  have C0 := Lib.hid (h.below hn0)
  clear hn0 h
  go_enter Tryz.func4, Tryz.ntmps4
  go_wp2_with fail
  refine (l19Open_any A n c _ C0.out).mono ?_
  rintro e w1 ⟨he, hb, hr⟩
  have hsz : (w.alloc (.cells #[.int .i64 0, .int .i64 0, .int .i64 0] 24)).heap.size = w.heap.size + 1 := by simp
  have X1 := Lib.hid (X0.out.below hb X0.out.lt)
  have B1 := Lib.hid (B0.out.trans (hb.mono B0.out.size))
  rw [hsz] at he hr
  subst he
  have R1 := Lib.hid (hr.alloc (.cells (ics [1, 2, 99, 0, -1, 1000000, 1000001]).toArray 3))
  have hw1 := hr.lt
  have X1a := Lib.hid (X1.out.alloc (.cells (ics [1, 2, 99, 0, -1, 1000000, 1000001]).toArray 3))
  have B1a := Lib.hid (B1.out.alloc B1.out.size (.cells (ics [1, 2, 99, 0, -1, 1000000, 1000001]).toArray 3))
  clear hb hr X0 hsz X1 B1
  go_wp2_with fail
  refine (numO (w.heap.size + 1) 0 w1.heap.size 7 [1, 2, 99, 0, -1, 1000000, 1000001] 3 (0, 0) _ R1.out (by omega) (heap_alloc_new w1 _) (by omega) rfl (by omega) (by omega)).mono ?_
  rintro e w2 ⟨x, hx, rfl, hg2, hr2⟩
  have X2 := Lib.hid (box_grownR X1a.out hg2 (by omega))
  have B2 := Lib.hid (B1a.out.grown hg2 B1a.out.size (fun k h => by have := Option.some.inj h; omega))
  have R2 := Lib.hid hr2
  clear hg2 hr2 hx X1a B1a R1
  go_wp2_with fail
  refine (l3Disk_any (w.heap.size + 1) (0 + 1) _ R2.out (by omega)).mono ?_
  rintro e w3 ⟨d, v0, v1, vl, k3, rfl, ho, hs, hk3, hg3, hr3⟩
  have X3 := Lib.hid (box_grownR X2.out hg3 (by omega))
  have B3 := Lib.hid (B2.out.grown hg3 B2.out.size (fun k h => by have := Option.some.inj h; omega))
  have hlt := R2.out.lt
  clear hg3 X2 B2 R2
  go_wp2_with fail
  refine (l3Ptr_any (w.heap.size + 1) k3 w2.heap.size v0 v1 vl d _ hr3 (by omega) ho hlt hs).mono ?_
  rintro e w4 ⟨p, rfl, hg4⟩
  have X4 := Lib.hid (box_grownR X3.out hg4 (by omega))
  have B4 := Lib.hid (B3.out.grown hg4 B3.out.size (fun k h => by have := Option.some.inj h; omega))
  clear hg4 X3 B3 ho hs hr3
  have c0 := X4.out.cell 0 rfl
  have f0 := X4.out.open_ 0
  have c1 := X4.out.cell 1 rfl
  have f1 := X4.out.open_ 1
  have c2 := X4.out.cell 2 rfl
  have f2 := X4.out.open_ 2
  have XE := Lib.hid (show Box _ w.heap.size [.int .i64 p.at_, .int .i64 p.sum, .int .i64 p.birth] from (((X4.out.set 0 (.int .i64 p.at_)).set 1 (.int .i64 p.sum)).set 2 (.int .i64 p.birth)))
  have BE := Lib.hid (((B4.out.setCell (p := ⟨w.heap.size, 0, none⟩) (Nat.le_refl _) (.int .i64 p.at_)).setCell (p := ⟨w.heap.size, 1, none⟩) (Nat.le_refl _) (.int .i64 p.sum)).setCell (p := ⟨w.heap.size, 2, none⟩) (Nat.le_refl _) (.int .i64 p.birth))
  go_wp2
  have y0 := XE.out.cell 0 rfl
  have y1 := XE.out.cell 1 rfl
  have y2 := XE.out.cell 2 rfl
  refine bodyPost_ret (v := .tuple #[.int .i64 x, pv p]) ?_ rfl ⟨x, p, rfl, BE.out⟩
  simp [results, Tryz.results4, go_sem, y0, y1, y2]
end Go.Proofs.YtfcfgdpelbljnaaGreatDoor
