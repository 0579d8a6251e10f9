/-
  A core, and a store, in memory of the call's own: impl's coreCopy and poolCopy, spec's l6Copy and l10Copy.
-/
import Derived.Test.YtobjgdnmlibofaaGreatCloneC
import Derived.Test.YtobjgdnmlibofaaGreatStore
import Derived.Test.YtobjgdnmlibofaaGreatImCopy
import Derived.Test.YtobjgdnmlibofaaGreatDiskCopy
import Derived.Deep.CutRange
set_option maxRecDepth 100000
namespace Go.Proofs.YtobjgdnmlibofaaGreat
open Go.ChangeShapes Go.WideShapes Go.ChangeAt Go.RowKit Go.Proofs.Palim

set_option maxHeartbeats 4000000 in
theorem coreCopy_any (vs vd vp vi : Value) (c : CoreM) (w : World) (h : CoreR w vs vd vp vi c) (hs : CoreShort c) :
    Calls Tryz.prog 44 #[cv c vs vd vp vi] w (NewCoreO w c) := by
  obtain ⟨A0, k0, A1, k1, A2, k2, A3, k3, rfl, rfl, rfl, rfl⟩ := h.forms
  obtain ⟨b1, b2, hsz, hB⟩ := box2 w #[.int .i64 c.txg, .slice A0 c.sets.length k0, .slice A1 c.ddt.length k1, .slice A2 c.parts.length k2, .bool c.dirty, .slice A3 c.safe.length k3, .int .i64 c.logn] #[.int .i64 0, .slice none 0 0, .slice none 0 0, .slice none 0 0, .bool false, .slice none 0 0, .int .i64 0] 44 44
  have X1 := Lib.hid (show Box _ _ [.int .i64 c.txg, .slice A0 c.sets.length k0, .slice A1 c.ddt.length k1, .slice A2 c.parts.length k2, .bool c.dirty, .slice A3 c.safe.length k3, .int .i64 c.logn] from b1)
  have X2 := Lib.hid (show Box _ _ [.int .i64 0, .slice none 0 0, .slice none 0 0, .slice none 0 0, .bool false, .slice none 0 0, .int .i64 0] from b2)
  have B0 := Lib.hid hB
  have HR := Lib.hid h
  have HS := Lib.hid hs
  have hx2 : w.heap.size + 1 < ((w.alloc (.cells #[.int .i64 c.txg, .slice A0 c.sets.length k0, .slice A1 c.ddt.length k1, .slice A2 c.parts.length k2, .bool c.dirty, .slice A3 c.safe.length k3, .int .i64 c.logn] 44)).alloc (.cells #[.int .i64 0, .slice none 0 0, .slice none 0 0, .slice none 0 0, .bool false, .slice none 0 0, .int .i64 0] 44)).heap.size := b2.lt
  clear b1 b2 hB hsz h hs
  go_enter Tryz.func44, Tryz.ntmps44
  go_upto_region 1 with fail
  obtain ⟨W, HWE⟩ : ∃ W, (w.alloc (.cells #[.int .i64 c.txg, .slice A0 c.sets.length k0, .slice A1 c.ddt.length k1, .slice A2 c.parts.length k2, .bool c.dirty, .slice A3 c.safe.length k3, .int .i64 c.logn] 44)).alloc (.cells #[.int .i64 0, .slice none 0 0, .slice none 0 0, .slice none 0 0, .bool false, .slice none 0 0, .int .i64 0] 44) = W := ⟨_, rfl⟩
  rw [HWE] at X1 X2 B0 hx2 ⊢
  clear HWE
  go_cut [] from 3 to 10 (fun wx => ∃ (E0 : Option Addr) (d0 : Nat) (E1 : Option Addr) (d1 : Nat), Hid (Box wx w.heap.size [.int .i64 c.txg, .slice E0 c.sets.length d0, .slice E1 c.ddt.length d1, .slice A2 c.parts.length k2, .bool c.dirty, .slice A3 c.safe.length k3, .int .i64 c.logn]) ∧ Hid (Box wx (w.heap.size + 1) [.int .i64 0, .slice none 0 0, .slice none 0 0, .slice none 0 0, .bool false, .slice none 0 0, .int .i64 0]) ∧ Hid (Below w.heap.size w wx) ∧ w.heap.size + 1 < wx.heap.size ∧ Hid (wx.ownsRow (w.heap.size + 1 + 1) 89 31 (.slice E0 c.sets.length d0) c.sets.length (ccs c.sets)) ∧ Hid (wx.ownsRow (w.heap.size + 1 + 1) 126 3 (.slice E1 c.ddt.length d1) c.ddt.length (ecs c.ddt)) ∧ Hid (∀ b, (Value.slice E0 c.sets.length d0).ownBlock = some b → (Value.slice E1 c.ddt.length d1).ownBlock = some b → False))
  case first =>
    refine wp_region_held_drew (S := fun _ => True) (by kernel_rfl) trivial (fun hHeld => ?_)
    have Y1 := Lib.hid X1.out.drew
    have Y2 := Lib.hid X2.out.drew
    have B1 := Lib.hid B0.out.drew
    have hx3 : w.heap.size + 1 < W.drew.heap.size := hx2
    clear X1 X2 B0 hx2 
    generalize W.drew = wd at hHeld Y1 Y2 B1 hx3 ⊢
    refine wpAnyH_take (i := 0) (v := ?_) rfl (by kernel_rfl) (by kernel_rfl) (by kernel_rfl) (fun _ _ _ h => h) (Or.inl ⟨by rfl, ?_⟩) (by assumption) ?_
    rotate_left
    · (intro w' hSw; go_simp; try with_reducible rfl)
    try simp only [Act.put]
    refine wpAnyH_take (i := 3) (v := ?_) rfl (by kernel_rfl) (by kernel_rfl) (by kernel_rfl) (fun _ _ _ h => h) (Or.inl ⟨by rfl, ?_⟩) (by assumption) ?_
    rotate_left
    · (intro w' hSw; go_simp; try with_reducible rfl)
    try simp only [Act.put]
    refine wpAnyH_ready (rs := [1, 4]) (by kernel_rfl) (by simp) ?_
    refine AllReadyH.cons rfl (fun K hK => ?_) (AllReadyH.cons rfl (fun K hK => ?_) (AllReadyH.nil))
    · have hway : True := trivial
      have q := Y1.out.cell 1 rfl
      go_simp
      refine hK.out _ _ trivial (fun hHeld1 => ?_)
      clear hK K
      try simp only [Act.put]
      clear q
      refine wpAnyH_ready (rs := [2, 4]) (by kernel_rfl) (by simp) ?_
      refine AllReadyH.cons rfl (fun K hK => ?_) (AllReadyH.cons rfl (fun K hK => ?_) (AllReadyH.nil))
      · have hway : True := trivial
        go_simp
        go_at_call 93
        refine (cloneSet_any _ c.sets _ (HR.out.s.below B1.out (fun b e => HR.out.ls b e)) (fun b e => Nat.lt_of_lt_of_le (HR.out.ls b e) B1.out.size) HS.out.s).mono ?_
        rintro e wt2 ⟨E0, d0, rfl, hown, hb⟩
        have O0 := Lib.hid (own_base hown (Nat.succ_le_of_lt hx3))
        have Z1 := Lib.hid (Y1.out.below hb Y1.out.lt)
        have Z2 := Lib.hid (Y2.out.below hb Y2.out.lt)
        have B2 := Lib.hid (B1.out.trans (hb.mono B1.out.size))
        have hx4 : w.heap.size + 1 < wt2.heap.size := Nat.lt_of_lt_of_le hx3 hb.size
        clear hb hown Y1 Y2 B1 hx3
        have Y1 := Z1
        have Y2 := Z2
        have B1 := B2
        have hx3 := hx4
        clear Z1 Z2 B2 hx4
        go_wp2_with fail
        refine hK.out _ _ trivial (fun hHeld2 => ?_)
        clear hK K
        try simp only [Act.put]
        refine wpAnyH_ready (rs := [4]) (by kernel_rfl) (by simp) ?_
        refine AllReadyH.cons rfl (fun K hK => ?_) (AllReadyH.nil)
        have q := Y1.out.cell 2 rfl
        go_simp
        refine hK.out _ _ trivial (fun hHeld3 => ?_)
        clear hK K
        try simp only [Act.put]
        clear q
        refine wpAnyH_take (i := 6) (v := ?_) rfl (by kernel_rfl) (by kernel_rfl) (by kernel_rfl) (fun _ _ _ h => h) (Or.inl ⟨by rfl, ?_⟩) (by assumption) ?_
        rotate_left
        · (intro w' hSw; go_simp; try with_reducible rfl)
        try simp only [Act.put]
        refine wpAnyH_ready (rs := [5]) (by kernel_rfl) (by simp) ?_
        refine AllReadyH.cons rfl (fun K hK => ?_) (AllReadyH.nil)
        go_simp
        go_at_call 94
        refine (cloneEnt_any _ c.ddt _ (HR.out.d.below B1.out (fun b e => HR.out.ld b e)) (fun b e => Nat.lt_of_lt_of_le (HR.out.ld b e) B1.out.size) HS.out.d).mono ?_
        rintro e wt4 ⟨E1, d1, rfl, hown, hb⟩
        have O1 := Lib.hid (own_base hown (Nat.succ_le_of_lt hx3))
        have U01 := Lib.hid (show ∀ b, (Value.slice E0 c.sets.length d0).ownBlock = some b → (Value.slice E1 c.ddt.length d1).ownBlock = some b → False from fun b e1 e2 => by have := (O0.out.lt b e1).2; have := (hown.lt b e2).1; omega)
        have O0n := Lib.hid (own_kept O0.out (fun b e => hb.block b (O0.out.lt b e).2))
        clear O0
        have O0 := O0n
        clear O0n
        have Z1 := Lib.hid (Y1.out.below hb Y1.out.lt)
        have Z2 := Lib.hid (Y2.out.below hb Y2.out.lt)
        have B2 := Lib.hid (B1.out.trans (hb.mono B1.out.size))
        have hx4 : w.heap.size + 1 < wt4.heap.size := Nat.lt_of_lt_of_le hx3 hb.size
        clear hb hown Y1 Y2 B1 hx3
        have Y1 := Z1
        have Y2 := Z2
        have B1 := B2
        have hx3 := hx4
        clear Z1 Z2 B2 hx4
        go_wp2_with fail
        refine hK.out _ _ trivial (fun hHeld4 => ?_)
        clear hK K
        try simp only [Act.put]
        refine wpAnyH_ready (rs := [7]) (by kernel_rfl) (by simp) ?_
        refine AllReadyH.cons rfl (fun K hK => ?_) (AllReadyH.nil)
        have c := Y1.out.cell 1 rfl
        have f := Y1.out.open_ 1
        go_simp
        refine hK.out _ _ trivial (fun hHeld5 => ?_)
        clear hK K
        try simp only [Act.put]
        clear c f
        have P1 := putAt_setCell wt4 w.heap.size 1 (.slice E0 c.sets.length d0)
        have Z1 := Lib.hid (show Box (wt4.setCell ⟨w.heap.size, 1, none⟩ (.slice E0 c.sets.length d0)) w.heap.size [.int .i64 c.txg, .slice E0 c.sets.length d0, .slice A1 c.ddt.length k1, .slice A2 c.parts.length k2, .bool c.dirty, .slice A3 c.safe.length k3, .int .i64 c.logn] from Y1.out.set 1 (.slice E0 c.sets.length d0))
        have Z2 := Lib.hid (P1.box (by omega) Y2.out)
        have B2 := Lib.hid (P1.below B1.out (Nat.le_refl _))
        have hx4 : w.heap.size + 1 < (wt4.setCell ⟨w.heap.size, 1, none⟩ (.slice E0 c.sets.length d0)).heap.size := by rw [P1.size]; exact hx3
        have O0n := Lib.hid (own_kept O0.out (w' := wt4.setCell ⟨w.heap.size, 1, none⟩ (.slice E0 c.sets.length d0)) (fun b e => P1.block b (by have := (O0.out.lt b e).1; omega)))
        have O1n := Lib.hid (own_kept O1.out (w' := wt4.setCell ⟨w.heap.size, 1, none⟩ (.slice E0 c.sets.length d0)) (fun b e => P1.block b (by have := (O1.out.lt b e).1; omega)))
        clear P1 Y1 Y2 B1 hx3 O0 O1
        generalize wt4.setCell ⟨w.heap.size, 1, none⟩ (.slice E0 c.sets.length d0) = ws5 at hHeld5 Z1 Z2 B2 hx4 O0n O1n ⊢
        have Y1 := Z1
        have Y2 := Z2
        have B1 := B2
        have hx3 := hx4
        clear Z1 Z2 B2 hx4
        have O0 := O0n
        clear O0n
        have O1 := O1n
        clear O1n
        refine wpAnyH_take (i := 8) (v := ?_) rfl (by kernel_rfl) (by kernel_rfl) (by kernel_rfl) (fun _ _ _ h => h) (Or.inl ⟨by rfl, ?_⟩) (by assumption) ?_
        rotate_left
        · (intro w' hSw; go_simp; try with_reducible rfl)
        try simp only [Act.put]
        refine wpAnyH_ready (rs := [9]) (by kernel_rfl) (by simp) ?_
        refine AllReadyH.cons rfl (fun K hK => ?_) (AllReadyH.nil)
        have c := Y1.out.cell 2 rfl
        have f := Y1.out.open_ 2
        go_simp
        refine hK.out _ _ trivial (fun hHeld6 => ?_)
        clear hK K
        try simp only [Act.put]
        clear c f
        have P1 := putAt_setCell ws5 w.heap.size 2 (.slice E1 c.ddt.length d1)
        have Z1 := Lib.hid (show Box (ws5.setCell ⟨w.heap.size, 2, none⟩ (.slice E1 c.ddt.length d1)) w.heap.size [.int .i64 c.txg, .slice E0 c.sets.length d0, .slice E1 c.ddt.length d1, .slice A2 c.parts.length k2, .bool c.dirty, .slice A3 c.safe.length k3, .int .i64 c.logn] from Y1.out.set 2 (.slice E1 c.ddt.length d1))
        have Z2 := Lib.hid (P1.box (by omega) Y2.out)
        have B2 := Lib.hid (P1.below B1.out (Nat.le_refl _))
        have hx4 : w.heap.size + 1 < (ws5.setCell ⟨w.heap.size, 2, none⟩ (.slice E1 c.ddt.length d1)).heap.size := by rw [P1.size]; exact hx3
        have O0n := Lib.hid (own_kept O0.out (w' := ws5.setCell ⟨w.heap.size, 2, none⟩ (.slice E1 c.ddt.length d1)) (fun b e => P1.block b (by have := (O0.out.lt b e).1; omega)))
        have O1n := Lib.hid (own_kept O1.out (w' := ws5.setCell ⟨w.heap.size, 2, none⟩ (.slice E1 c.ddt.length d1)) (fun b e => P1.block b (by have := (O1.out.lt b e).1; omega)))
        clear P1 Y1 Y2 B1 hx3 O0 O1
        generalize ws5.setCell ⟨w.heap.size, 2, none⟩ (.slice E1 c.ddt.length d1) = ws6 at hHeld6 Z1 Z2 B2 hx4 O0n O1n ⊢
        have Y1 := Z1
        have Y2 := Z2
        have B1 := B2
        have hx3 := hx4
        clear Z1 Z2 B2 hx4
        have O0 := O0n
        clear O0n
        have O1 := O1n
        clear O1n
        refine wpAnyH_done (by kernel_rfl) ?_ _
        go_simp
        go_wp2_with fail
        go_meet
        exact ⟨E0, d0, E1, d1, Y1, Y2, B1, hx3, O0, O1, U01⟩
      · have hway : True := trivial
        have q := Y1.out.cell 2 rfl
        go_simp
        refine hK.out _ _ trivial (fun hHeld2 => ?_)
        clear hK K
        try simp only [Act.put]
        clear q
        refine wpAnyH_ready (rs := [2]) (by kernel_rfl) (by simp) ?_
        refine AllReadyH.cons rfl (fun K hK => ?_) (AllReadyH.nil)
        go_simp
        go_at_call 93
        refine (cloneSet_any _ c.sets _ (HR.out.s.below B1.out (fun b e => HR.out.ls b e)) (fun b e => Nat.lt_of_lt_of_le (HR.out.ls b e) B1.out.size) HS.out.s).mono ?_
        rintro e wt3 ⟨E0, d0, rfl, hown, hb⟩
        have O0 := Lib.hid (own_base hown (Nat.succ_le_of_lt hx3))
        have Z1 := Lib.hid (Y1.out.below hb Y1.out.lt)
        have Z2 := Lib.hid (Y2.out.below hb Y2.out.lt)
        have B2 := Lib.hid (B1.out.trans (hb.mono B1.out.size))
        have hx4 : w.heap.size + 1 < wt3.heap.size := Nat.lt_of_lt_of_le hx3 hb.size
        clear hb hown Y1 Y2 B1 hx3
        have Y1 := Z1
        have Y2 := Z2
        have B1 := B2
        have hx3 := hx4
        clear Z1 Z2 B2 hx4
        go_wp2_with fail
        refine hK.out _ _ trivial (fun hHeld3 => ?_)
        clear hK K
        try simp only [Act.put]
        refine wpAnyH_take (i := 6) (v := ?_) rfl (by kernel_rfl) (by kernel_rfl) (by kernel_rfl) (fun _ _ _ h => h) (Or.inl ⟨by rfl, ?_⟩) (by assumption) ?_
        rotate_left
        · (intro w' hSw; go_simp; try with_reducible rfl)
        try simp only [Act.put]
        refine wpAnyH_ready (rs := [5]) (by kernel_rfl) (by simp) ?_
        refine AllReadyH.cons rfl (fun K hK => ?_) (AllReadyH.nil)
        go_simp
        go_at_call 94
        refine (cloneEnt_any _ c.ddt _ (HR.out.d.below B1.out (fun b e => HR.out.ld b e)) (fun b e => Nat.lt_of_lt_of_le (HR.out.ld b e) B1.out.size) HS.out.d).mono ?_
        rintro e wt4 ⟨E1, d1, rfl, hown, hb⟩
        have O1 := Lib.hid (own_base hown (Nat.succ_le_of_lt hx3))
        have U01 := Lib.hid (show ∀ b, (Value.slice E0 c.sets.length d0).ownBlock = some b → (Value.slice E1 c.ddt.length d1).ownBlock = some b → False from fun b e1 e2 => by have := (O0.out.lt b e1).2; have := (hown.lt b e2).1; omega)
        have O0n := Lib.hid (own_kept O0.out (fun b e => hb.block b (O0.out.lt b e).2))
        clear O0
        have O0 := O0n
        clear O0n
        have Z1 := Lib.hid (Y1.out.below hb Y1.out.lt)
        have Z2 := Lib.hid (Y2.out.below hb Y2.out.lt)
        have B2 := Lib.hid (B1.out.trans (hb.mono B1.out.size))
        have hx4 : w.heap.size + 1 < wt4.heap.size := Nat.lt_of_lt_of_le hx3 hb.size
        clear hb hown Y1 Y2 B1 hx3
        have Y1 := Z1
        have Y2 := Z2
        have B1 := B2
        have hx3 := hx4
        clear Z1 Z2 B2 hx4
        go_wp2_with fail
        refine hK.out _ _ trivial (fun hHeld4 => ?_)
        clear hK K
        try simp only [Act.put]
        refine wpAnyH_ready (rs := [7]) (by kernel_rfl) (by simp) ?_
        refine AllReadyH.cons rfl (fun K hK => ?_) (AllReadyH.nil)
        have c := Y1.out.cell 1 rfl
        have f := Y1.out.open_ 1
        go_simp
        refine hK.out _ _ trivial (fun hHeld5 => ?_)
        clear hK K
        try simp only [Act.put]
        clear c f
        have P1 := putAt_setCell wt4 w.heap.size 1 (.slice E0 c.sets.length d0)
        have Z1 := Lib.hid (show Box (wt4.setCell ⟨w.heap.size, 1, none⟩ (.slice E0 c.sets.length d0)) w.heap.size [.int .i64 c.txg, .slice E0 c.sets.length d0, .slice A1 c.ddt.length k1, .slice A2 c.parts.length k2, .bool c.dirty, .slice A3 c.safe.length k3, .int .i64 c.logn] from Y1.out.set 1 (.slice E0 c.sets.length d0))
        have Z2 := Lib.hid (P1.box (by omega) Y2.out)
        have B2 := Lib.hid (P1.below B1.out (Nat.le_refl _))
        have hx4 : w.heap.size + 1 < (wt4.setCell ⟨w.heap.size, 1, none⟩ (.slice E0 c.sets.length d0)).heap.size := by rw [P1.size]; exact hx3
        have O0n := Lib.hid (own_kept O0.out (w' := wt4.setCell ⟨w.heap.size, 1, none⟩ (.slice E0 c.sets.length d0)) (fun b e => P1.block b (by have := (O0.out.lt b e).1; omega)))
        have O1n := Lib.hid (own_kept O1.out (w' := wt4.setCell ⟨w.heap.size, 1, none⟩ (.slice E0 c.sets.length d0)) (fun b e => P1.block b (by have := (O1.out.lt b e).1; omega)))
        clear P1 Y1 Y2 B1 hx3 O0 O1
        generalize wt4.setCell ⟨w.heap.size, 1, none⟩ (.slice E0 c.sets.length d0) = ws5 at hHeld5 Z1 Z2 B2 hx4 O0n O1n ⊢
        have Y1 := Z1
        have Y2 := Z2
        have B1 := B2
        have hx3 := hx4
        clear Z1 Z2 B2 hx4
        have O0 := O0n
        clear O0n
        have O1 := O1n
        clear O1n
        refine wpAnyH_take (i := 8) (v := ?_) rfl (by kernel_rfl) (by kernel_rfl) (by kernel_rfl) (fun _ _ _ h => h) (Or.inl ⟨by rfl, ?_⟩) (by assumption) ?_
        rotate_left
        · (intro w' hSw; go_simp; try with_reducible rfl)
        try simp only [Act.put]
        refine wpAnyH_ready (rs := [9]) (by kernel_rfl) (by simp) ?_
        refine AllReadyH.cons rfl (fun K hK => ?_) (AllReadyH.nil)
        have c := Y1.out.cell 2 rfl
        have f := Y1.out.open_ 2
        go_simp
        refine hK.out _ _ trivial (fun hHeld6 => ?_)
        clear hK K
        try simp only [Act.put]
        clear c f
        have P1 := putAt_setCell ws5 w.heap.size 2 (.slice E1 c.ddt.length d1)
        have Z1 := Lib.hid (show Box (ws5.setCell ⟨w.heap.size, 2, none⟩ (.slice E1 c.ddt.length d1)) w.heap.size [.int .i64 c.txg, .slice E0 c.sets.length d0, .slice E1 c.ddt.length d1, .slice A2 c.parts.length k2, .bool c.dirty, .slice A3 c.safe.length k3, .int .i64 c.logn] from Y1.out.set 2 (.slice E1 c.ddt.length d1))
        have Z2 := Lib.hid (P1.box (by omega) Y2.out)
        have B2 := Lib.hid (P1.below B1.out (Nat.le_refl _))
        have hx4 : w.heap.size + 1 < (ws5.setCell ⟨w.heap.size, 2, none⟩ (.slice E1 c.ddt.length d1)).heap.size := by rw [P1.size]; exact hx3
        have O0n := Lib.hid (own_kept O0.out (w' := ws5.setCell ⟨w.heap.size, 2, none⟩ (.slice E1 c.ddt.length d1)) (fun b e => P1.block b (by have := (O0.out.lt b e).1; omega)))
        have O1n := Lib.hid (own_kept O1.out (w' := ws5.setCell ⟨w.heap.size, 2, none⟩ (.slice E1 c.ddt.length d1)) (fun b e => P1.block b (by have := (O1.out.lt b e).1; omega)))
        clear P1 Y1 Y2 B1 hx3 O0 O1
        generalize ws5.setCell ⟨w.heap.size, 2, none⟩ (.slice E1 c.ddt.length d1) = ws6 at hHeld6 Z1 Z2 B2 hx4 O0n O1n ⊢
        have Y1 := Z1
        have Y2 := Z2
        have B1 := B2
        have hx3 := hx4
        clear Z1 Z2 B2 hx4
        have O0 := O0n
        clear O0n
        have O1 := O1n
        clear O1n
        refine wpAnyH_done (by kernel_rfl) ?_ _
        go_simp
        go_wp2_with fail
        go_meet
        exact ⟨E0, d0, E1, d1, Y1, Y2, B1, hx3, O0, O1, U01⟩
    · have hway : True := trivial
      have q := Y1.out.cell 2 rfl
      go_simp
      refine hK.out _ _ trivial (fun hHeld1 => ?_)
      clear hK K
      try simp only [Act.put]
      clear q
      refine wpAnyH_ready (rs := [1]) (by kernel_rfl) (by simp) ?_
      refine AllReadyH.cons rfl (fun K hK => ?_) (AllReadyH.nil)
      have q := Y1.out.cell 1 rfl
      go_simp
      refine hK.out _ _ trivial (fun hHeld2 => ?_)
      clear hK K
      try simp only [Act.put]
      clear q
      refine wpAnyH_ready (rs := [2]) (by kernel_rfl) (by simp) ?_
      refine AllReadyH.cons rfl (fun K hK => ?_) (AllReadyH.nil)
      go_simp
      go_at_call 93
      refine (cloneSet_any _ c.sets _ (HR.out.s.below B1.out (fun b e => HR.out.ls b e)) (fun b e => Nat.lt_of_lt_of_le (HR.out.ls b e) B1.out.size) HS.out.s).mono ?_
      rintro e wt3 ⟨E0, d0, rfl, hown, hb⟩
      have O0 := Lib.hid (own_base hown (Nat.succ_le_of_lt hx3))
      have Z1 := Lib.hid (Y1.out.below hb Y1.out.lt)
      have Z2 := Lib.hid (Y2.out.below hb Y2.out.lt)
      have B2 := Lib.hid (B1.out.trans (hb.mono B1.out.size))
      have hx4 : w.heap.size + 1 < wt3.heap.size := Nat.lt_of_lt_of_le hx3 hb.size
      clear hb hown Y1 Y2 B1 hx3
      have Y1 := Z1
      have Y2 := Z2
      have B1 := B2
      have hx3 := hx4
      clear Z1 Z2 B2 hx4
      go_wp2_with fail
      refine hK.out _ _ trivial (fun hHeld3 => ?_)
      clear hK K
      try simp only [Act.put]
      refine wpAnyH_take (i := 6) (v := ?_) rfl (by kernel_rfl) (by kernel_rfl) (by kernel_rfl) (fun _ _ _ h => h) (Or.inl ⟨by rfl, ?_⟩) (by assumption) ?_
      rotate_left
      · (intro w' hSw; go_simp; try with_reducible rfl)
      try simp only [Act.put]
      refine wpAnyH_ready (rs := [5]) (by kernel_rfl) (by simp) ?_
      refine AllReadyH.cons rfl (fun K hK => ?_) (AllReadyH.nil)
      go_simp
      go_at_call 94
      refine (cloneEnt_any _ c.ddt _ (HR.out.d.below B1.out (fun b e => HR.out.ld b e)) (fun b e => Nat.lt_of_lt_of_le (HR.out.ld b e) B1.out.size) HS.out.d).mono ?_
      rintro e wt4 ⟨E1, d1, rfl, hown, hb⟩
      have O1 := Lib.hid (own_base hown (Nat.succ_le_of_lt hx3))
      have U01 := Lib.hid (show ∀ b, (Value.slice E0 c.sets.length d0).ownBlock = some b → (Value.slice E1 c.ddt.length d1).ownBlock = some b → False from fun b e1 e2 => by have := (O0.out.lt b e1).2; have := (hown.lt b e2).1; omega)
      have O0n := Lib.hid (own_kept O0.out (fun b e => hb.block b (O0.out.lt b e).2))
      clear O0
      have O0 := O0n
      clear O0n
      have Z1 := Lib.hid (Y1.out.below hb Y1.out.lt)
      have Z2 := Lib.hid (Y2.out.below hb Y2.out.lt)
      have B2 := Lib.hid (B1.out.trans (hb.mono B1.out.size))
      have hx4 : w.heap.size + 1 < wt4.heap.size := Nat.lt_of_lt_of_le hx3 hb.size
      clear hb hown Y1 Y2 B1 hx3
      have Y1 := Z1
      have Y2 := Z2
      have B1 := B2
      have hx3 := hx4
      clear Z1 Z2 B2 hx4
      go_wp2_with fail
      refine hK.out _ _ trivial (fun hHeld4 => ?_)
      clear hK K
      try simp only [Act.put]
      refine wpAnyH_ready (rs := [7]) (by kernel_rfl) (by simp) ?_
      refine AllReadyH.cons rfl (fun K hK => ?_) (AllReadyH.nil)
      have c := Y1.out.cell 1 rfl
      have f := Y1.out.open_ 1
      go_simp
      refine hK.out _ _ trivial (fun hHeld5 => ?_)
      clear hK K
      try simp only [Act.put]
      clear c f
      have P1 := putAt_setCell wt4 w.heap.size 1 (.slice E0 c.sets.length d0)
      have Z1 := Lib.hid (show Box (wt4.setCell ⟨w.heap.size, 1, none⟩ (.slice E0 c.sets.length d0)) w.heap.size [.int .i64 c.txg, .slice E0 c.sets.length d0, .slice A1 c.ddt.length k1, .slice A2 c.parts.length k2, .bool c.dirty, .slice A3 c.safe.length k3, .int .i64 c.logn] from Y1.out.set 1 (.slice E0 c.sets.length d0))
      have Z2 := Lib.hid (P1.box (by omega) Y2.out)
      have B2 := Lib.hid (P1.below B1.out (Nat.le_refl _))
      have hx4 : w.heap.size + 1 < (wt4.setCell ⟨w.heap.size, 1, none⟩ (.slice E0 c.sets.length d0)).heap.size := by rw [P1.size]; exact hx3
      have O0n := Lib.hid (own_kept O0.out (w' := wt4.setCell ⟨w.heap.size, 1, none⟩ (.slice E0 c.sets.length d0)) (fun b e => P1.block b (by have := (O0.out.lt b e).1; omega)))
      have O1n := Lib.hid (own_kept O1.out (w' := wt4.setCell ⟨w.heap.size, 1, none⟩ (.slice E0 c.sets.length d0)) (fun b e => P1.block b (by have := (O1.out.lt b e).1; omega)))
      clear P1 Y1 Y2 B1 hx3 O0 O1
      generalize wt4.setCell ⟨w.heap.size, 1, none⟩ (.slice E0 c.sets.length d0) = ws5 at hHeld5 Z1 Z2 B2 hx4 O0n O1n ⊢
      have Y1 := Z1
      have Y2 := Z2
      have B1 := B2
      have hx3 := hx4
      clear Z1 Z2 B2 hx4
      have O0 := O0n
      clear O0n
      have O1 := O1n
      clear O1n
      refine wpAnyH_take (i := 8) (v := ?_) rfl (by kernel_rfl) (by kernel_rfl) (by kernel_rfl) (fun _ _ _ h => h) (Or.inl ⟨by rfl, ?_⟩) (by assumption) ?_
      rotate_left
      · (intro w' hSw; go_simp; try with_reducible rfl)
      try simp only [Act.put]
      refine wpAnyH_ready (rs := [9]) (by kernel_rfl) (by simp) ?_
      refine AllReadyH.cons rfl (fun K hK => ?_) (AllReadyH.nil)
      have c := Y1.out.cell 2 rfl
      have f := Y1.out.open_ 2
      go_simp
      refine hK.out _ _ trivial (fun hHeld6 => ?_)
      clear hK K
      try simp only [Act.put]
      clear c f
      have P1 := putAt_setCell ws5 w.heap.size 2 (.slice E1 c.ddt.length d1)
      have Z1 := Lib.hid (show Box (ws5.setCell ⟨w.heap.size, 2, none⟩ (.slice E1 c.ddt.length d1)) w.heap.size [.int .i64 c.txg, .slice E0 c.sets.length d0, .slice E1 c.ddt.length d1, .slice A2 c.parts.length k2, .bool c.dirty, .slice A3 c.safe.length k3, .int .i64 c.logn] from Y1.out.set 2 (.slice E1 c.ddt.length d1))
      have Z2 := Lib.hid (P1.box (by omega) Y2.out)
      have B2 := Lib.hid (P1.below B1.out (Nat.le_refl _))
      have hx4 : w.heap.size + 1 < (ws5.setCell ⟨w.heap.size, 2, none⟩ (.slice E1 c.ddt.length d1)).heap.size := by rw [P1.size]; exact hx3
      have O0n := Lib.hid (own_kept O0.out (w' := ws5.setCell ⟨w.heap.size, 2, none⟩ (.slice E1 c.ddt.length d1)) (fun b e => P1.block b (by have := (O0.out.lt b e).1; omega)))
      have O1n := Lib.hid (own_kept O1.out (w' := ws5.setCell ⟨w.heap.size, 2, none⟩ (.slice E1 c.ddt.length d1)) (fun b e => P1.block b (by have := (O1.out.lt b e).1; omega)))
      clear P1 Y1 Y2 B1 hx3 O0 O1
      generalize ws5.setCell ⟨w.heap.size, 2, none⟩ (.slice E1 c.ddt.length d1) = ws6 at hHeld6 Z1 Z2 B2 hx4 O0n O1n ⊢
      have Y1 := Z1
      have Y2 := Z2
      have B1 := B2
      have hx3 := hx4
      clear Z1 Z2 B2 hx4
      have O0 := O0n
      clear O0n
      have O1 := O1n
      clear O1n
      refine wpAnyH_done (by kernel_rfl) ?_ _
      go_simp
      go_wp2_with fail
      go_meet
      exact ⟨E0, d0, E1, d1, Y1, Y2, B1, hx3, O0, O1, U01⟩
  case rest =>
  obtain ⟨E0, d0, E1, d1, X1, X2, B0, hx2, O0, O1, U01⟩ := hcut
  go_upto_region 2 with fail
  go_cut [] from 11 to 18 (fun wx => ∃ (E0 : Option Addr) (d0 : Nat) (E1 : Option Addr) (d1 : Nat) (E2 : Option Addr) (d2 : Nat) (E3 : Option Addr) (d3 : Nat), Hid (Box wx w.heap.size [.int .i64 c.txg, .slice E0 c.sets.length d0, .slice E1 c.ddt.length d1, .slice E2 c.parts.length d2, .bool c.dirty, .slice E3 c.safe.length d3, .int .i64 c.logn]) ∧ Hid (Box wx (w.heap.size + 1) [.int .i64 0, .slice none 0 0, .slice none 0 0, .slice none 0 0, .bool false, .slice none 0 0, .int .i64 0]) ∧ Hid (Below w.heap.size w wx) ∧ w.heap.size + 1 < wx.heap.size ∧ Hid (wx.ownsRow (w.heap.size + 1 + 1) 89 31 (.slice E0 c.sets.length d0) c.sets.length (ccs c.sets)) ∧ Hid (wx.ownsRow (w.heap.size + 1 + 1) 126 3 (.slice E1 c.ddt.length d1) c.ddt.length (ecs c.ddt)) ∧ Hid (wx.ownsRow (w.heap.size + 1 + 1) 86 3 (.slice E2 c.parts.length d2) c.parts.length (pcs c.parts)) ∧ Hid (wx.ownsRow (w.heap.size + 1 + 1) 3 1 (.slice E3 c.safe.length d3) c.safe.length (ics c.safe)) ∧ Hid (∀ b, (Value.slice E0 c.sets.length d0).ownBlock = some b → (Value.slice E1 c.ddt.length d1).ownBlock = some b → False) ∧ Hid (∀ b, (Value.slice E0 c.sets.length d0).ownBlock = some b → (Value.slice E2 c.parts.length d2).ownBlock = some b → False) ∧ Hid (∀ b, (Value.slice E0 c.sets.length d0).ownBlock = some b → (Value.slice E3 c.safe.length d3).ownBlock = some b → False) ∧ Hid (∀ b, (Value.slice E1 c.ddt.length d1).ownBlock = some b → (Value.slice E2 c.parts.length d2).ownBlock = some b → False) ∧ Hid (∀ b, (Value.slice E1 c.ddt.length d1).ownBlock = some b → (Value.slice E3 c.safe.length d3).ownBlock = some b → False) ∧ Hid (∀ b, (Value.slice E2 c.parts.length d2).ownBlock = some b → (Value.slice E3 c.safe.length d3).ownBlock = some b → False))
  case first =>
    refine wp_region_held_drew (S := fun _ => True) (by kernel_rfl) trivial (fun hHeld => ?_)
    have Y1 := Lib.hid X1.out.drew
    have Y2 := Lib.hid X2.out.drew
    have B1 := Lib.hid B0.out.drew
    have hx3 : w.heap.size + 1 < wc.drew.heap.size := hx2
    have O0n := Lib.hid (own_kept O0.out (w' := wc.drew) (fun _ _ => rfl))
    have O1n := Lib.hid (own_kept O1.out (w' := wc.drew) (fun _ _ => rfl))
    clear X1 X2 B0 hx2 O0 O1
    generalize wc.drew = wd at hHeld Y1 Y2 B1 hx3 O0n O1n ⊢
    have O0 := O0n
    clear O0n
    have O1 := O1n
    clear O1n
    refine wpAnyH_take (i := 0) (v := ?_) rfl (by kernel_rfl) (by kernel_rfl) (by kernel_rfl) (fun _ _ _ h => h) (Or.inl ⟨by rfl, ?_⟩) (by assumption) ?_
    rotate_left
    · (intro w' hSw; go_simp; try with_reducible rfl)
    try simp only [Act.put]
    refine wpAnyH_take (i := 3) (v := ?_) rfl (by kernel_rfl) (by kernel_rfl) (by kernel_rfl) (fun _ _ _ h => h) (Or.inl ⟨by rfl, ?_⟩) (by assumption) ?_
    rotate_left
    · (intro w' hSw; go_simp; try with_reducible rfl)
    try simp only [Act.put]
    refine wpAnyH_ready (rs := [1, 4]) (by kernel_rfl) (by simp) ?_
    refine AllReadyH.cons rfl (fun K hK => ?_) (AllReadyH.cons rfl (fun K hK => ?_) (AllReadyH.nil))
    · have hway : True := trivial
      have q := Y1.out.cell 3 rfl
      go_simp
      refine hK.out _ _ trivial (fun hHeld1 => ?_)
      clear hK K
      try simp only [Act.put]
      clear q
      refine wpAnyH_ready (rs := [2, 4]) (by kernel_rfl) (by simp) ?_
      refine AllReadyH.cons rfl (fun K hK => ?_) (AllReadyH.cons rfl (fun K hK => ?_) (AllReadyH.nil))
      · have hway : True := trivial
        go_simp
        go_at_call 95
        refine (clonePtr_any _ c.parts _ (HR.out.p.below B1.out (fun b e => HR.out.lp b e)) (fun b e => Nat.lt_of_lt_of_le (HR.out.lp b e) B1.out.size) HS.out.p).mono ?_
        rintro e wt2 ⟨E2, d2, rfl, hown, hb⟩
        have O2 := Lib.hid (own_base hown (Nat.succ_le_of_lt hx3))
        have U02 := Lib.hid (show ∀ b, (Value.slice E0 c.sets.length d0).ownBlock = some b → (Value.slice E2 c.parts.length d2).ownBlock = some b → False from fun b e1 e2 => by have := (O0.out.lt b e1).2; have := (hown.lt b e2).1; omega)
        have U12 := Lib.hid (show ∀ b, (Value.slice E1 c.ddt.length d1).ownBlock = some b → (Value.slice E2 c.parts.length d2).ownBlock = some b → False from fun b e1 e2 => by have := (O1.out.lt b e1).2; have := (hown.lt b e2).1; omega)
        have O0n := Lib.hid (own_kept O0.out (fun b e => hb.block b (O0.out.lt b e).2))
        clear O0
        have O0 := O0n
        clear O0n
        have O1n := Lib.hid (own_kept O1.out (fun b e => hb.block b (O1.out.lt b e).2))
        clear O1
        have O1 := O1n
        clear O1n
        have Z1 := Lib.hid (Y1.out.below hb Y1.out.lt)
        have Z2 := Lib.hid (Y2.out.below hb Y2.out.lt)
        have B2 := Lib.hid (B1.out.trans (hb.mono B1.out.size))
        have hx4 : w.heap.size + 1 < wt2.heap.size := Nat.lt_of_lt_of_le hx3 hb.size
        clear hb hown Y1 Y2 B1 hx3
        have Y1 := Z1
        have Y2 := Z2
        have B1 := B2
        have hx3 := hx4
        clear Z1 Z2 B2 hx4
        go_wp2_with fail
        refine hK.out _ _ trivial (fun hHeld2 => ?_)
        clear hK K
        try simp only [Act.put]
        refine wpAnyH_ready (rs := [4]) (by kernel_rfl) (by simp) ?_
        refine AllReadyH.cons rfl (fun K hK => ?_) (AllReadyH.nil)
        have q := Y1.out.cell 5 rfl
        go_simp
        refine hK.out _ _ trivial (fun hHeld3 => ?_)
        clear hK K
        try simp only [Act.put]
        clear q
        refine wpAnyH_take (i := 6) (v := ?_) rfl (by kernel_rfl) (by kernel_rfl) (by kernel_rfl) (fun _ _ _ h => h) (Or.inl ⟨by rfl, ?_⟩) (by assumption) ?_
        rotate_left
        · (intro w' hSw; go_simp; try with_reducible rfl)
        try simp only [Act.put]
        refine wpAnyH_ready (rs := [5]) (by kernel_rfl) (by simp) ?_
        refine AllReadyH.cons rfl (fun K hK => ?_) (AllReadyH.nil)
        go_simp
        go_at_call 96
        refine (cloneInt_any _ c.safe _ (HR.out.i.below B1.out (fun b e => HR.out.li b e)) (fun b e => Nat.lt_of_lt_of_le (HR.out.li b e) B1.out.size) HS.out.i).mono ?_
        rintro e wt4 ⟨E3, d3, rfl, hown, hb⟩
        have O3 := Lib.hid (own_base hown (Nat.succ_le_of_lt hx3))
        have U03 := Lib.hid (show ∀ b, (Value.slice E0 c.sets.length d0).ownBlock = some b → (Value.slice E3 c.safe.length d3).ownBlock = some b → False from fun b e1 e2 => by have := (O0.out.lt b e1).2; have := (hown.lt b e2).1; omega)
        have U13 := Lib.hid (show ∀ b, (Value.slice E1 c.ddt.length d1).ownBlock = some b → (Value.slice E3 c.safe.length d3).ownBlock = some b → False from fun b e1 e2 => by have := (O1.out.lt b e1).2; have := (hown.lt b e2).1; omega)
        have U23 := Lib.hid (show ∀ b, (Value.slice E2 c.parts.length d2).ownBlock = some b → (Value.slice E3 c.safe.length d3).ownBlock = some b → False from fun b e1 e2 => by have := (O2.out.lt b e1).2; have := (hown.lt b e2).1; omega)
        have O0n := Lib.hid (own_kept O0.out (fun b e => hb.block b (O0.out.lt b e).2))
        clear O0
        have O0 := O0n
        clear O0n
        have O1n := Lib.hid (own_kept O1.out (fun b e => hb.block b (O1.out.lt b e).2))
        clear O1
        have O1 := O1n
        clear O1n
        have O2n := Lib.hid (own_kept O2.out (fun b e => hb.block b (O2.out.lt b e).2))
        clear O2
        have O2 := O2n
        clear O2n
        have Z1 := Lib.hid (Y1.out.below hb Y1.out.lt)
        have Z2 := Lib.hid (Y2.out.below hb Y2.out.lt)
        have B2 := Lib.hid (B1.out.trans (hb.mono B1.out.size))
        have hx4 : w.heap.size + 1 < wt4.heap.size := Nat.lt_of_lt_of_le hx3 hb.size
        clear hb hown Y1 Y2 B1 hx3
        have Y1 := Z1
        have Y2 := Z2
        have B1 := B2
        have hx3 := hx4
        clear Z1 Z2 B2 hx4
        go_wp2_with fail
        refine hK.out _ _ trivial (fun hHeld4 => ?_)
        clear hK K
        try simp only [Act.put]
        refine wpAnyH_ready (rs := [7]) (by kernel_rfl) (by simp) ?_
        refine AllReadyH.cons rfl (fun K hK => ?_) (AllReadyH.nil)
        have c := Y1.out.cell 3 rfl
        have f := Y1.out.open_ 3
        go_simp
        refine hK.out _ _ trivial (fun hHeld5 => ?_)
        clear hK K
        try simp only [Act.put]
        clear c f
        have P1 := putAt_setCell wt4 w.heap.size 3 (.slice E2 c.parts.length d2)
        have Z1 := Lib.hid (show Box (wt4.setCell ⟨w.heap.size, 3, none⟩ (.slice E2 c.parts.length d2)) w.heap.size [.int .i64 c.txg, .slice E0 c.sets.length d0, .slice E1 c.ddt.length d1, .slice E2 c.parts.length d2, .bool c.dirty, .slice A3 c.safe.length k3, .int .i64 c.logn] from Y1.out.set 3 (.slice E2 c.parts.length d2))
        have Z2 := Lib.hid (P1.box (by omega) Y2.out)
        have B2 := Lib.hid (P1.below B1.out (Nat.le_refl _))
        have hx4 : w.heap.size + 1 < (wt4.setCell ⟨w.heap.size, 3, none⟩ (.slice E2 c.parts.length d2)).heap.size := by rw [P1.size]; exact hx3
        have O0n := Lib.hid (own_kept O0.out (w' := wt4.setCell ⟨w.heap.size, 3, none⟩ (.slice E2 c.parts.length d2)) (fun b e => P1.block b (by have := (O0.out.lt b e).1; omega)))
        have O1n := Lib.hid (own_kept O1.out (w' := wt4.setCell ⟨w.heap.size, 3, none⟩ (.slice E2 c.parts.length d2)) (fun b e => P1.block b (by have := (O1.out.lt b e).1; omega)))
        have O2n := Lib.hid (own_kept O2.out (w' := wt4.setCell ⟨w.heap.size, 3, none⟩ (.slice E2 c.parts.length d2)) (fun b e => P1.block b (by have := (O2.out.lt b e).1; omega)))
        have O3n := Lib.hid (own_kept O3.out (w' := wt4.setCell ⟨w.heap.size, 3, none⟩ (.slice E2 c.parts.length d2)) (fun b e => P1.block b (by have := (O3.out.lt b e).1; omega)))
        clear P1 Y1 Y2 B1 hx3 O0 O1 O2 O3
        generalize wt4.setCell ⟨w.heap.size, 3, none⟩ (.slice E2 c.parts.length d2) = ws5 at hHeld5 Z1 Z2 B2 hx4 O0n O1n O2n O3n ⊢
        have Y1 := Z1
        have Y2 := Z2
        have B1 := B2
        have hx3 := hx4
        clear Z1 Z2 B2 hx4
        have O0 := O0n
        clear O0n
        have O1 := O1n
        clear O1n
        have O2 := O2n
        clear O2n
        have O3 := O3n
        clear O3n
        refine wpAnyH_take (i := 8) (v := ?_) rfl (by kernel_rfl) (by kernel_rfl) (by kernel_rfl) (fun _ _ _ h => h) (Or.inl ⟨by rfl, ?_⟩) (by assumption) ?_
        rotate_left
        · (intro w' hSw; go_simp; try with_reducible rfl)
        try simp only [Act.put]
        refine wpAnyH_ready (rs := [9]) (by kernel_rfl) (by simp) ?_
        refine AllReadyH.cons rfl (fun K hK => ?_) (AllReadyH.nil)
        have c := Y1.out.cell 5 rfl
        have f := Y1.out.open_ 5
        go_simp
        refine hK.out _ _ trivial (fun hHeld6 => ?_)
        clear hK K
        try simp only [Act.put]
        clear c f
        have P1 := putAt_setCell ws5 w.heap.size 5 (.slice E3 c.safe.length d3)
        have Z1 := Lib.hid (show Box (ws5.setCell ⟨w.heap.size, 5, none⟩ (.slice E3 c.safe.length d3)) w.heap.size [.int .i64 c.txg, .slice E0 c.sets.length d0, .slice E1 c.ddt.length d1, .slice E2 c.parts.length d2, .bool c.dirty, .slice E3 c.safe.length d3, .int .i64 c.logn] from Y1.out.set 5 (.slice E3 c.safe.length d3))
        have Z2 := Lib.hid (P1.box (by omega) Y2.out)
        have B2 := Lib.hid (P1.below B1.out (Nat.le_refl _))
        have hx4 : w.heap.size + 1 < (ws5.setCell ⟨w.heap.size, 5, none⟩ (.slice E3 c.safe.length d3)).heap.size := by rw [P1.size]; exact hx3
        have O0n := Lib.hid (own_kept O0.out (w' := ws5.setCell ⟨w.heap.size, 5, none⟩ (.slice E3 c.safe.length d3)) (fun b e => P1.block b (by have := (O0.out.lt b e).1; omega)))
        have O1n := Lib.hid (own_kept O1.out (w' := ws5.setCell ⟨w.heap.size, 5, none⟩ (.slice E3 c.safe.length d3)) (fun b e => P1.block b (by have := (O1.out.lt b e).1; omega)))
        have O2n := Lib.hid (own_kept O2.out (w' := ws5.setCell ⟨w.heap.size, 5, none⟩ (.slice E3 c.safe.length d3)) (fun b e => P1.block b (by have := (O2.out.lt b e).1; omega)))
        have O3n := Lib.hid (own_kept O3.out (w' := ws5.setCell ⟨w.heap.size, 5, none⟩ (.slice E3 c.safe.length d3)) (fun b e => P1.block b (by have := (O3.out.lt b e).1; omega)))
        clear P1 Y1 Y2 B1 hx3 O0 O1 O2 O3
        generalize ws5.setCell ⟨w.heap.size, 5, none⟩ (.slice E3 c.safe.length d3) = ws6 at hHeld6 Z1 Z2 B2 hx4 O0n O1n O2n O3n ⊢
        have Y1 := Z1
        have Y2 := Z2
        have B1 := B2
        have hx3 := hx4
        clear Z1 Z2 B2 hx4
        have O0 := O0n
        clear O0n
        have O1 := O1n
        clear O1n
        have O2 := O2n
        clear O2n
        have O3 := O3n
        clear O3n
        refine wpAnyH_done (by kernel_rfl) ?_ _
        go_simp
        go_wp2_with fail
        go_meet
        exact ⟨E0, d0, E1, d1, E2, d2, E3, d3, Y1, Y2, B1, hx3, O0, O1, O2, O3, U01, U02, U03, U12, U13, U23⟩
      · have hway : True := trivial
        have q := Y1.out.cell 5 rfl
        go_simp
        refine hK.out _ _ trivial (fun hHeld2 => ?_)
        clear hK K
        try simp only [Act.put]
        clear q
        refine wpAnyH_ready (rs := [2]) (by kernel_rfl) (by simp) ?_
        refine AllReadyH.cons rfl (fun K hK => ?_) (AllReadyH.nil)
        go_simp
        go_at_call 95
        refine (clonePtr_any _ c.parts _ (HR.out.p.below B1.out (fun b e => HR.out.lp b e)) (fun b e => Nat.lt_of_lt_of_le (HR.out.lp b e) B1.out.size) HS.out.p).mono ?_
        rintro e wt3 ⟨E2, d2, rfl, hown, hb⟩
        have O2 := Lib.hid (own_base hown (Nat.succ_le_of_lt hx3))
        have U02 := Lib.hid (show ∀ b, (Value.slice E0 c.sets.length d0).ownBlock = some b → (Value.slice E2 c.parts.length d2).ownBlock = some b → False from fun b e1 e2 => by have := (O0.out.lt b e1).2; have := (hown.lt b e2).1; omega)
        have U12 := Lib.hid (show ∀ b, (Value.slice E1 c.ddt.length d1).ownBlock = some b → (Value.slice E2 c.parts.length d2).ownBlock = some b → False from fun b e1 e2 => by have := (O1.out.lt b e1).2; have := (hown.lt b e2).1; omega)
        have O0n := Lib.hid (own_kept O0.out (fun b e => hb.block b (O0.out.lt b e).2))
        clear O0
        have O0 := O0n
        clear O0n
        have O1n := Lib.hid (own_kept O1.out (fun b e => hb.block b (O1.out.lt b e).2))
        clear O1
        have O1 := O1n
        clear O1n
        have Z1 := Lib.hid (Y1.out.below hb Y1.out.lt)
        have Z2 := Lib.hid (Y2.out.below hb Y2.out.lt)
        have B2 := Lib.hid (B1.out.trans (hb.mono B1.out.size))
        have hx4 : w.heap.size + 1 < wt3.heap.size := Nat.lt_of_lt_of_le hx3 hb.size
        clear hb hown Y1 Y2 B1 hx3
        have Y1 := Z1
        have Y2 := Z2
        have B1 := B2
        have hx3 := hx4
        clear Z1 Z2 B2 hx4
        go_wp2_with fail
        refine hK.out _ _ trivial (fun hHeld3 => ?_)
        clear hK K
        try simp only [Act.put]
        refine wpAnyH_take (i := 6) (v := ?_) rfl (by kernel_rfl) (by kernel_rfl) (by kernel_rfl) (fun _ _ _ h => h) (Or.inl ⟨by rfl, ?_⟩) (by assumption) ?_
        rotate_left
        · (intro w' hSw; go_simp; try with_reducible rfl)
        try simp only [Act.put]
        refine wpAnyH_ready (rs := [5]) (by kernel_rfl) (by simp) ?_
        refine AllReadyH.cons rfl (fun K hK => ?_) (AllReadyH.nil)
        go_simp
        go_at_call 96
        refine (cloneInt_any _ c.safe _ (HR.out.i.below B1.out (fun b e => HR.out.li b e)) (fun b e => Nat.lt_of_lt_of_le (HR.out.li b e) B1.out.size) HS.out.i).mono ?_
        rintro e wt4 ⟨E3, d3, rfl, hown, hb⟩
        have O3 := Lib.hid (own_base hown (Nat.succ_le_of_lt hx3))
        have U03 := Lib.hid (show ∀ b, (Value.slice E0 c.sets.length d0).ownBlock = some b → (Value.slice E3 c.safe.length d3).ownBlock = some b → False from fun b e1 e2 => by have := (O0.out.lt b e1).2; have := (hown.lt b e2).1; omega)
        have U13 := Lib.hid (show ∀ b, (Value.slice E1 c.ddt.length d1).ownBlock = some b → (Value.slice E3 c.safe.length d3).ownBlock = some b → False from fun b e1 e2 => by have := (O1.out.lt b e1).2; have := (hown.lt b e2).1; omega)
        have U23 := Lib.hid (show ∀ b, (Value.slice E2 c.parts.length d2).ownBlock = some b → (Value.slice E3 c.safe.length d3).ownBlock = some b → False from fun b e1 e2 => by have := (O2.out.lt b e1).2; have := (hown.lt b e2).1; omega)
        have O0n := Lib.hid (own_kept O0.out (fun b e => hb.block b (O0.out.lt b e).2))
        clear O0
        have O0 := O0n
        clear O0n
        have O1n := Lib.hid (own_kept O1.out (fun b e => hb.block b (O1.out.lt b e).2))
        clear O1
        have O1 := O1n
        clear O1n
        have O2n := Lib.hid (own_kept O2.out (fun b e => hb.block b (O2.out.lt b e).2))
        clear O2
        have O2 := O2n
        clear O2n
        have Z1 := Lib.hid (Y1.out.below hb Y1.out.lt)
        have Z2 := Lib.hid (Y2.out.below hb Y2.out.lt)
        have B2 := Lib.hid (B1.out.trans (hb.mono B1.out.size))
        have hx4 : w.heap.size + 1 < wt4.heap.size := Nat.lt_of_lt_of_le hx3 hb.size
        clear hb hown Y1 Y2 B1 hx3
        have Y1 := Z1
        have Y2 := Z2
        have B1 := B2
        have hx3 := hx4
        clear Z1 Z2 B2 hx4
        go_wp2_with fail
        refine hK.out _ _ trivial (fun hHeld4 => ?_)
        clear hK K
        try simp only [Act.put]
        refine wpAnyH_ready (rs := [7]) (by kernel_rfl) (by simp) ?_
        refine AllReadyH.cons rfl (fun K hK => ?_) (AllReadyH.nil)
        have c := Y1.out.cell 3 rfl
        have f := Y1.out.open_ 3
        go_simp
        refine hK.out _ _ trivial (fun hHeld5 => ?_)
        clear hK K
        try simp only [Act.put]
        clear c f
        have P1 := putAt_setCell wt4 w.heap.size 3 (.slice E2 c.parts.length d2)
        have Z1 := Lib.hid (show Box (wt4.setCell ⟨w.heap.size, 3, none⟩ (.slice E2 c.parts.length d2)) w.heap.size [.int .i64 c.txg, .slice E0 c.sets.length d0, .slice E1 c.ddt.length d1, .slice E2 c.parts.length d2, .bool c.dirty, .slice A3 c.safe.length k3, .int .i64 c.logn] from Y1.out.set 3 (.slice E2 c.parts.length d2))
        have Z2 := Lib.hid (P1.box (by omega) Y2.out)
        have B2 := Lib.hid (P1.below B1.out (Nat.le_refl _))
        have hx4 : w.heap.size + 1 < (wt4.setCell ⟨w.heap.size, 3, none⟩ (.slice E2 c.parts.length d2)).heap.size := by rw [P1.size]; exact hx3
        have O0n := Lib.hid (own_kept O0.out (w' := wt4.setCell ⟨w.heap.size, 3, none⟩ (.slice E2 c.parts.length d2)) (fun b e => P1.block b (by have := (O0.out.lt b e).1; omega)))
        have O1n := Lib.hid (own_kept O1.out (w' := wt4.setCell ⟨w.heap.size, 3, none⟩ (.slice E2 c.parts.length d2)) (fun b e => P1.block b (by have := (O1.out.lt b e).1; omega)))
        have O2n := Lib.hid (own_kept O2.out (w' := wt4.setCell ⟨w.heap.size, 3, none⟩ (.slice E2 c.parts.length d2)) (fun b e => P1.block b (by have := (O2.out.lt b e).1; omega)))
        have O3n := Lib.hid (own_kept O3.out (w' := wt4.setCell ⟨w.heap.size, 3, none⟩ (.slice E2 c.parts.length d2)) (fun b e => P1.block b (by have := (O3.out.lt b e).1; omega)))
        clear P1 Y1 Y2 B1 hx3 O0 O1 O2 O3
        generalize wt4.setCell ⟨w.heap.size, 3, none⟩ (.slice E2 c.parts.length d2) = ws5 at hHeld5 Z1 Z2 B2 hx4 O0n O1n O2n O3n ⊢
        have Y1 := Z1
        have Y2 := Z2
        have B1 := B2
        have hx3 := hx4
        clear Z1 Z2 B2 hx4
        have O0 := O0n
        clear O0n
        have O1 := O1n
        clear O1n
        have O2 := O2n
        clear O2n
        have O3 := O3n
        clear O3n
        refine wpAnyH_take (i := 8) (v := ?_) rfl (by kernel_rfl) (by kernel_rfl) (by kernel_rfl) (fun _ _ _ h => h) (Or.inl ⟨by rfl, ?_⟩) (by assumption) ?_
        rotate_left
        · (intro w' hSw; go_simp; try with_reducible rfl)
        try simp only [Act.put]
        refine wpAnyH_ready (rs := [9]) (by kernel_rfl) (by simp) ?_
        refine AllReadyH.cons rfl (fun K hK => ?_) (AllReadyH.nil)
        have c := Y1.out.cell 5 rfl
        have f := Y1.out.open_ 5
        go_simp
        refine hK.out _ _ trivial (fun hHeld6 => ?_)
        clear hK K
        try simp only [Act.put]
        clear c f
        have P1 := putAt_setCell ws5 w.heap.size 5 (.slice E3 c.safe.length d3)
        have Z1 := Lib.hid (show Box (ws5.setCell ⟨w.heap.size, 5, none⟩ (.slice E3 c.safe.length d3)) w.heap.size [.int .i64 c.txg, .slice E0 c.sets.length d0, .slice E1 c.ddt.length d1, .slice E2 c.parts.length d2, .bool c.dirty, .slice E3 c.safe.length d3, .int .i64 c.logn] from Y1.out.set 5 (.slice E3 c.safe.length d3))
        have Z2 := Lib.hid (P1.box (by omega) Y2.out)
        have B2 := Lib.hid (P1.below B1.out (Nat.le_refl _))
        have hx4 : w.heap.size + 1 < (ws5.setCell ⟨w.heap.size, 5, none⟩ (.slice E3 c.safe.length d3)).heap.size := by rw [P1.size]; exact hx3
        have O0n := Lib.hid (own_kept O0.out (w' := ws5.setCell ⟨w.heap.size, 5, none⟩ (.slice E3 c.safe.length d3)) (fun b e => P1.block b (by have := (O0.out.lt b e).1; omega)))
        have O1n := Lib.hid (own_kept O1.out (w' := ws5.setCell ⟨w.heap.size, 5, none⟩ (.slice E3 c.safe.length d3)) (fun b e => P1.block b (by have := (O1.out.lt b e).1; omega)))
        have O2n := Lib.hid (own_kept O2.out (w' := ws5.setCell ⟨w.heap.size, 5, none⟩ (.slice E3 c.safe.length d3)) (fun b e => P1.block b (by have := (O2.out.lt b e).1; omega)))
        have O3n := Lib.hid (own_kept O3.out (w' := ws5.setCell ⟨w.heap.size, 5, none⟩ (.slice E3 c.safe.length d3)) (fun b e => P1.block b (by have := (O3.out.lt b e).1; omega)))
        clear P1 Y1 Y2 B1 hx3 O0 O1 O2 O3
        generalize ws5.setCell ⟨w.heap.size, 5, none⟩ (.slice E3 c.safe.length d3) = ws6 at hHeld6 Z1 Z2 B2 hx4 O0n O1n O2n O3n ⊢
        have Y1 := Z1
        have Y2 := Z2
        have B1 := B2
        have hx3 := hx4
        clear Z1 Z2 B2 hx4
        have O0 := O0n
        clear O0n
        have O1 := O1n
        clear O1n
        have O2 := O2n
        clear O2n
        have O3 := O3n
        clear O3n
        refine wpAnyH_done (by kernel_rfl) ?_ _
        go_simp
        go_wp2_with fail
        go_meet
        exact ⟨E0, d0, E1, d1, E2, d2, E3, d3, Y1, Y2, B1, hx3, O0, O1, O2, O3, U01, U02, U03, U12, U13, U23⟩
    · have hway : True := trivial
      have q := Y1.out.cell 5 rfl
      go_simp
      refine hK.out _ _ trivial (fun hHeld1 => ?_)
      clear hK K
      try simp only [Act.put]
      clear q
      refine wpAnyH_ready (rs := [1]) (by kernel_rfl) (by simp) ?_
      refine AllReadyH.cons rfl (fun K hK => ?_) (AllReadyH.nil)
      have q := Y1.out.cell 3 rfl
      go_simp
      refine hK.out _ _ trivial (fun hHeld2 => ?_)
      clear hK K
      try simp only [Act.put]
      clear q
      refine wpAnyH_ready (rs := [2]) (by kernel_rfl) (by simp) ?_
      refine AllReadyH.cons rfl (fun K hK => ?_) (AllReadyH.nil)
      go_simp
      go_at_call 95
      refine (clonePtr_any _ c.parts _ (HR.out.p.below B1.out (fun b e => HR.out.lp b e)) (fun b e => Nat.lt_of_lt_of_le (HR.out.lp b e) B1.out.size) HS.out.p).mono ?_
      rintro e wt3 ⟨E2, d2, rfl, hown, hb⟩
      have O2 := Lib.hid (own_base hown (Nat.succ_le_of_lt hx3))
      have U02 := Lib.hid (show ∀ b, (Value.slice E0 c.sets.length d0).ownBlock = some b → (Value.slice E2 c.parts.length d2).ownBlock = some b → False from fun b e1 e2 => by have := (O0.out.lt b e1).2; have := (hown.lt b e2).1; omega)
      have U12 := Lib.hid (show ∀ b, (Value.slice E1 c.ddt.length d1).ownBlock = some b → (Value.slice E2 c.parts.length d2).ownBlock = some b → False from fun b e1 e2 => by have := (O1.out.lt b e1).2; have := (hown.lt b e2).1; omega)
      have O0n := Lib.hid (own_kept O0.out (fun b e => hb.block b (O0.out.lt b e).2))
      clear O0
      have O0 := O0n
      clear O0n
      have O1n := Lib.hid (own_kept O1.out (fun b e => hb.block b (O1.out.lt b e).2))
      clear O1
      have O1 := O1n
      clear O1n
      have Z1 := Lib.hid (Y1.out.below hb Y1.out.lt)
      have Z2 := Lib.hid (Y2.out.below hb Y2.out.lt)
      have B2 := Lib.hid (B1.out.trans (hb.mono B1.out.size))
      have hx4 : w.heap.size + 1 < wt3.heap.size := Nat.lt_of_lt_of_le hx3 hb.size
      clear hb hown Y1 Y2 B1 hx3
      have Y1 := Z1
      have Y2 := Z2
      have B1 := B2
      have hx3 := hx4
      clear Z1 Z2 B2 hx4
      go_wp2_with fail
      refine hK.out _ _ trivial (fun hHeld3 => ?_)
      clear hK K
      try simp only [Act.put]
      refine wpAnyH_take (i := 6) (v := ?_) rfl (by kernel_rfl) (by kernel_rfl) (by kernel_rfl) (fun _ _ _ h => h) (Or.inl ⟨by rfl, ?_⟩) (by assumption) ?_
      rotate_left
      · (intro w' hSw; go_simp; try with_reducible rfl)
      try simp only [Act.put]
      refine wpAnyH_ready (rs := [5]) (by kernel_rfl) (by simp) ?_
      refine AllReadyH.cons rfl (fun K hK => ?_) (AllReadyH.nil)
      go_simp
      go_at_call 96
      refine (cloneInt_any _ c.safe _ (HR.out.i.below B1.out (fun b e => HR.out.li b e)) (fun b e => Nat.lt_of_lt_of_le (HR.out.li b e) B1.out.size) HS.out.i).mono ?_
      rintro e wt4 ⟨E3, d3, rfl, hown, hb⟩
      have O3 := Lib.hid (own_base hown (Nat.succ_le_of_lt hx3))
      have U03 := Lib.hid (show ∀ b, (Value.slice E0 c.sets.length d0).ownBlock = some b → (Value.slice E3 c.safe.length d3).ownBlock = some b → False from fun b e1 e2 => by have := (O0.out.lt b e1).2; have := (hown.lt b e2).1; omega)
      have U13 := Lib.hid (show ∀ b, (Value.slice E1 c.ddt.length d1).ownBlock = some b → (Value.slice E3 c.safe.length d3).ownBlock = some b → False from fun b e1 e2 => by have := (O1.out.lt b e1).2; have := (hown.lt b e2).1; omega)
      have U23 := Lib.hid (show ∀ b, (Value.slice E2 c.parts.length d2).ownBlock = some b → (Value.slice E3 c.safe.length d3).ownBlock = some b → False from fun b e1 e2 => by have := (O2.out.lt b e1).2; have := (hown.lt b e2).1; omega)
      have O0n := Lib.hid (own_kept O0.out (fun b e => hb.block b (O0.out.lt b e).2))
      clear O0
      have O0 := O0n
      clear O0n
      have O1n := Lib.hid (own_kept O1.out (fun b e => hb.block b (O1.out.lt b e).2))
      clear O1
      have O1 := O1n
      clear O1n
      have O2n := Lib.hid (own_kept O2.out (fun b e => hb.block b (O2.out.lt b e).2))
      clear O2
      have O2 := O2n
      clear O2n
      have Z1 := Lib.hid (Y1.out.below hb Y1.out.lt)
      have Z2 := Lib.hid (Y2.out.below hb Y2.out.lt)
      have B2 := Lib.hid (B1.out.trans (hb.mono B1.out.size))
      have hx4 : w.heap.size + 1 < wt4.heap.size := Nat.lt_of_lt_of_le hx3 hb.size
      clear hb hown Y1 Y2 B1 hx3
      have Y1 := Z1
      have Y2 := Z2
      have B1 := B2
      have hx3 := hx4
      clear Z1 Z2 B2 hx4
      go_wp2_with fail
      refine hK.out _ _ trivial (fun hHeld4 => ?_)
      clear hK K
      try simp only [Act.put]
      refine wpAnyH_ready (rs := [7]) (by kernel_rfl) (by simp) ?_
      refine AllReadyH.cons rfl (fun K hK => ?_) (AllReadyH.nil)
      have c := Y1.out.cell 3 rfl
      have f := Y1.out.open_ 3
      go_simp
      refine hK.out _ _ trivial (fun hHeld5 => ?_)
      clear hK K
      try simp only [Act.put]
      clear c f
      have P1 := putAt_setCell wt4 w.heap.size 3 (.slice E2 c.parts.length d2)
      have Z1 := Lib.hid (show Box (wt4.setCell ⟨w.heap.size, 3, none⟩ (.slice E2 c.parts.length d2)) w.heap.size [.int .i64 c.txg, .slice E0 c.sets.length d0, .slice E1 c.ddt.length d1, .slice E2 c.parts.length d2, .bool c.dirty, .slice A3 c.safe.length k3, .int .i64 c.logn] from Y1.out.set 3 (.slice E2 c.parts.length d2))
      have Z2 := Lib.hid (P1.box (by omega) Y2.out)
      have B2 := Lib.hid (P1.below B1.out (Nat.le_refl _))
      have hx4 : w.heap.size + 1 < (wt4.setCell ⟨w.heap.size, 3, none⟩ (.slice E2 c.parts.length d2)).heap.size := by rw [P1.size]; exact hx3
      have O0n := Lib.hid (own_kept O0.out (w' := wt4.setCell ⟨w.heap.size, 3, none⟩ (.slice E2 c.parts.length d2)) (fun b e => P1.block b (by have := (O0.out.lt b e).1; omega)))
      have O1n := Lib.hid (own_kept O1.out (w' := wt4.setCell ⟨w.heap.size, 3, none⟩ (.slice E2 c.parts.length d2)) (fun b e => P1.block b (by have := (O1.out.lt b e).1; omega)))
      have O2n := Lib.hid (own_kept O2.out (w' := wt4.setCell ⟨w.heap.size, 3, none⟩ (.slice E2 c.parts.length d2)) (fun b e => P1.block b (by have := (O2.out.lt b e).1; omega)))
      have O3n := Lib.hid (own_kept O3.out (w' := wt4.setCell ⟨w.heap.size, 3, none⟩ (.slice E2 c.parts.length d2)) (fun b e => P1.block b (by have := (O3.out.lt b e).1; omega)))
      clear P1 Y1 Y2 B1 hx3 O0 O1 O2 O3
      generalize wt4.setCell ⟨w.heap.size, 3, none⟩ (.slice E2 c.parts.length d2) = ws5 at hHeld5 Z1 Z2 B2 hx4 O0n O1n O2n O3n ⊢
      have Y1 := Z1
      have Y2 := Z2
      have B1 := B2
      have hx3 := hx4
      clear Z1 Z2 B2 hx4
      have O0 := O0n
      clear O0n
      have O1 := O1n
      clear O1n
      have O2 := O2n
      clear O2n
      have O3 := O3n
      clear O3n
      refine wpAnyH_take (i := 8) (v := ?_) rfl (by kernel_rfl) (by kernel_rfl) (by kernel_rfl) (fun _ _ _ h => h) (Or.inl ⟨by rfl, ?_⟩) (by assumption) ?_
      rotate_left
      · (intro w' hSw; go_simp; try with_reducible rfl)
      try simp only [Act.put]
      refine wpAnyH_ready (rs := [9]) (by kernel_rfl) (by simp) ?_
      refine AllReadyH.cons rfl (fun K hK => ?_) (AllReadyH.nil)
      have c := Y1.out.cell 5 rfl
      have f := Y1.out.open_ 5
      go_simp
      refine hK.out _ _ trivial (fun hHeld6 => ?_)
      clear hK K
      try simp only [Act.put]
      clear c f
      have P1 := putAt_setCell ws5 w.heap.size 5 (.slice E3 c.safe.length d3)
      have Z1 := Lib.hid (show Box (ws5.setCell ⟨w.heap.size, 5, none⟩ (.slice E3 c.safe.length d3)) w.heap.size [.int .i64 c.txg, .slice E0 c.sets.length d0, .slice E1 c.ddt.length d1, .slice E2 c.parts.length d2, .bool c.dirty, .slice E3 c.safe.length d3, .int .i64 c.logn] from Y1.out.set 5 (.slice E3 c.safe.length d3))
      have Z2 := Lib.hid (P1.box (by omega) Y2.out)
      have B2 := Lib.hid (P1.below B1.out (Nat.le_refl _))
      have hx4 : w.heap.size + 1 < (ws5.setCell ⟨w.heap.size, 5, none⟩ (.slice E3 c.safe.length d3)).heap.size := by rw [P1.size]; exact hx3
      have O0n := Lib.hid (own_kept O0.out (w' := ws5.setCell ⟨w.heap.size, 5, none⟩ (.slice E3 c.safe.length d3)) (fun b e => P1.block b (by have := (O0.out.lt b e).1; omega)))
      have O1n := Lib.hid (own_kept O1.out (w' := ws5.setCell ⟨w.heap.size, 5, none⟩ (.slice E3 c.safe.length d3)) (fun b e => P1.block b (by have := (O1.out.lt b e).1; omega)))
      have O2n := Lib.hid (own_kept O2.out (w' := ws5.setCell ⟨w.heap.size, 5, none⟩ (.slice E3 c.safe.length d3)) (fun b e => P1.block b (by have := (O2.out.lt b e).1; omega)))
      have O3n := Lib.hid (own_kept O3.out (w' := ws5.setCell ⟨w.heap.size, 5, none⟩ (.slice E3 c.safe.length d3)) (fun b e => P1.block b (by have := (O3.out.lt b e).1; omega)))
      clear P1 Y1 Y2 B1 hx3 O0 O1 O2 O3
      generalize ws5.setCell ⟨w.heap.size, 5, none⟩ (.slice E3 c.safe.length d3) = ws6 at hHeld6 Z1 Z2 B2 hx4 O0n O1n O2n O3n ⊢
      have Y1 := Z1
      have Y2 := Z2
      have B1 := B2
      have hx3 := hx4
      clear Z1 Z2 B2 hx4
      have O0 := O0n
      clear O0n
      have O1 := O1n
      clear O1n
      have O2 := O2n
      clear O2n
      have O3 := O3n
      clear O3n
      refine wpAnyH_done (by kernel_rfl) ?_ _
      go_simp
      go_wp2_with fail
      go_meet
      exact ⟨E0, d0, E1, d1, E2, d2, E3, d3, Y1, Y2, B1, hx3, O0, O1, O2, O3, U01, U02, U03, U12, U13, U23⟩
  case rest =>
  obtain ⟨E0, d0, E1, d1, E2, d2, E3, d3, X1, X2, B0, hx2, O0, O1, O2, O3, U01, U02, U03, U12, U13, U23⟩ := hcut
  go_wp2_with (first
    | (refine wpList_load_box rfl _ rfl aggCore rfl [.int .i64 c.txg, .slice E0 c.sets.length d0, .slice E1 c.ddt.length d1, .slice E2 c.parts.length d2, .bool c.dirty, .slice E3 c.safe.length d3, .int .i64 c.logn] rfl X1.out ?_)
    | (refine wpList_put_mid rfl _ _ rfl rfl aggCore rfl [.int .i64 c.txg, .slice E0 c.sets.length d0, .slice E1 c.ddt.length d1, .slice E2 c.parts.length d2, .bool c.dirty, .slice E3 c.safe.length d3, .int .i64 c.logn] rfl rfl (by simp [Value.oneCell']) X2.out [] [.int .i64 0, .slice none 0 0, .slice none 0 0, .slice none 0 0, .bool false, .slice none 0 0, .int .i64 0] [] [.int .i64 c.txg, .slice E0 c.sets.length d0, .slice E1 c.ddt.length d1, .slice E2 c.parts.length d2, .bool c.dirty, .slice E3 c.safe.length d3, .int .i64 c.logn] rfl rfl rfl rfl ?_))
  intro W4 P1 Z2
  go_wp2
  refine bodyPost_ret (results_box rfl _ (w.heap.size + 1) [.int .i64 c.txg, .slice E0 c.sets.length d0, .slice E1 c.ddt.length d1, .slice E2 c.parts.length d2, .bool c.dirty, .slice E3 c.safe.length d3, .int .i64 c.logn] aggCore rfl rfl Z2) rfl ⟨_, _, _, _, rfl, ⟨?_, ?_, ?_, ?_, U01.out, U02.out, U03.out, U12.out, U13.out, U23.out⟩, P1.below B0.out (by omega)⟩
  · exact own_base (own_kept O0.out (fun b e => P1.block b (by have := (O0.out.lt b e).1; omega))) (by omega)
  · exact own_base (own_kept O1.out (fun b e => P1.block b (by have := (O1.out.lt b e).1; omega))) (by omega)
  · exact own_base (own_kept O2.out (fun b e => P1.block b (by have := (O2.out.lt b e).1; omega))) (by omega)
  · exact own_base (own_kept O3.out (fun b e => P1.block b (by have := (O3.out.lt b e).1; omega))) (by omega)
end Go.Proofs.YtobjgdnmlibofaaGreat
