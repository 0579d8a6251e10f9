/-
  A store in new memory: spec's l10Copy.
-/
import Derived.Test.YtobjgdnmlibofaaGreatCopyS
set_option maxRecDepth 100000
namespace Go.Proofs.YtobjgdnmlibofaaGreat
open Go.ChangeShapes Go.WideShapes Go.ChangeAt Go.RowKit Go.Proofs.Palim

set_option maxHeartbeats 4000000 in
theorem l10Copy_any (v : PV) (p : PoolM) (w : World) (h : PoolR w v p) (hs : PoolShort p) :
    Calls Tryz.prog 32 #[v.val p] w (NewPool w p) := by
  obtain ⟨b1, b2, hsz, hB⟩ := box2 w #[v.v0, v.v1, v.vl, .int .i64 p.core.txg, v.vs, v.vd, v.vp, .bool p.core.dirty, v.vi, .int .i64 p.core.logn, .bool p.up] #[.slice none 0 0, .slice none 0 0, .slice none 0 0, .int .i64 0, .slice none 0 0, .slice none 0 0, .slice none 0 0, .bool false, .slice none 0 0, .int .i64 0, .bool false] 46 46
  have X1 := Lib.hid (show PBox _ _ v p from ⟨b1, h.below hB⟩)
  have X2 := Lib.hid (show Box _ _ [.slice none 0 0, .slice none 0 0, .slice none 0 0, .int .i64 0, .slice none 0 0, .slice none 0 0, .slice none 0 0, .bool false, .slice none 0 0, .int .i64 0, .bool false] from b2)
  have B0 := Lib.hid hB
  have HS := Lib.hid hs
  clear b1 b2 hB hsz h hs
  go_enter Tryz.func32, Tryz.ntmps32
  go_upto_region 1 with fail
  obtain ⟨W, HWE⟩ : ∃ W, (w.alloc (.cells #[v.v0, v.v1, v.vl, .int .i64 p.core.txg, v.vs, v.vd, v.vp, .bool p.core.dirty, v.vi, .int .i64 p.core.logn, .bool p.up] 46)).alloc (.cells #[.slice none 0 0, .slice none 0 0, .slice none 0 0, .int .i64 0, .slice none 0 0, .slice none 0 0, .slice none 0 0, .bool false, .slice none 0 0, .int .i64 0, .bool false] 46) = W := ⟨_, rfl⟩
  rw [HWE] at X1 X2 B0 ⊢
  clear HWE
  refine wp_region_held_drew (S := fun w' => Box w' w.heap.size (v.cells p)) (by kernel_rfl) X1.out.box (fun hHeld => ?_)
  have Y1 := Lib.hid X1.out.drew
  have Y2 := Lib.hid X2.out.drew
  have B1 := Lib.hid B0.out.drew
  have hx3 : w.heap.size + 1 < W.drew.heap.size := X2.out.lt
  clear X1 X2 B0
  generalize W.drew = wd at hHeld Y1 Y2 B1 hx3 ⊢
  refine wpAnyH_take (i := 0) (v := ?_) rfl (by kernel_rfl) (by kernel_rfl) (by kernel_rfl) (fun _ _ _ h => h) (Or.inl ⟨by first | kernel_rfl | rfl, ?_⟩) (by assumption) ?_
  rotate_left
  · (intro w' hSw; have q10 := hSw.cell 10 rfl; clear hSw; go_simp; try with_reducible rfl)
  try simp only [Act.put]
  refine wpAnyH_take (i := 1) (v := .agg (v.dl).toArray) rfl (by kernel_rfl) (by kernel_rfl) (by kernel_rfl) (fun _ _ _ h => h) (Or.inl ⟨by first | kernel_rfl | rfl, fun w' hSw => exec_load_cs _ rfl aggDiskI rfl (v.dl) rfl (PV.diskAt hSw)⟩) (by assumption) ?_
  try simp only [Act.put]
  refine wpAnyH_take (i := 3) (v := ?_) rfl (by kernel_rfl) (by kernel_rfl) (by kernel_rfl) (fun _ _ _ h => h) (Or.inl ⟨by first | kernel_rfl | rfl, ?_⟩) (by assumption) ?_
  rotate_left
  · (intro w' hSw; have q10 := hSw.cell 10 rfl; clear hSw; go_simp; try with_reducible rfl)
  try simp only [Act.put]
  refine wpAnyH_take (i := 4) (v := .agg (v.kl p.core).toArray) rfl (by kernel_rfl) (by kernel_rfl) (by kernel_rfl) (fun _ _ _ h => h) (Or.inl ⟨by first | kernel_rfl | rfl, fun w' hSw => exec_load_cs _ rfl aggCore rfl (v.kl p.core) rfl (PV.coreAt hSw)⟩) (by assumption) ?_
  try simp only [Act.put]
  refine wpAnyH_take (i := 6) (v := ?_) rfl (by kernel_rfl) (by kernel_rfl) (by kernel_rfl) (fun _ _ _ h => h) (Or.inl ⟨by first | kernel_rfl | rfl, ?_⟩) (by assumption) ?_
  rotate_left
  · (intro w' hSw; have q10 := hSw.cell 10 rfl; clear hSw; go_simp; try with_reducible rfl)
  try simp only [Act.put]
  refine wpAnyH_take (i := 7) (v := ?_) rfl (by kernel_rfl) (by kernel_rfl) (by kernel_rfl) (fun _ _ _ h => h) (Or.inl ⟨by first | kernel_rfl | rfl, ?_⟩) (by assumption) ?_
  rotate_left
  · (intro w' hSw; have q10 := hSw.cell 10 rfl; clear hSw; go_simp; try with_reducible rfl)
  try simp only [Act.put]
  refine wpAnyH_ready (rs := [2]) (by kernel_rfl) (by simp) ?_
  refine AllReadyH.cons rfl (fun K hK => ?_) AllReadyH.nil
  go_simp
  go_at_call 72
  refine (l2Copy_any _ _ _ p.disk _ Y1.out.reads.d HS.out.d).mono ?_
  rintro e w1 ⟨u0, u1, ul, rfl, hown, hb⟩
  have OD := Lib.hid (hown.base (Nat.succ_le_of_lt hx3))
  have OL := Lib.hid (show ∀ b, DTurns u0 u1 ul b → b < w1.heap.size from fun b e => (hown.turns e).2)
  have Z1 := Lib.hid (Y1.out.below hb)
  have Z2 := Lib.hid (Y2.out.below hb Y2.out.lt)
  have B2 := Lib.hid (B1.out.trans (hb.mono B1.out.size))
  have hx4 : w.heap.size + 1 < w1.heap.size := Nat.lt_of_lt_of_le hx3 hb.size
  clear hb hown Y1 Y2 B1 hx3
  go_wp2_with fail
  refine hK.out _ _ Z1.out.box (fun hHeld2 => ?_)
  clear hK K
  try simp only [Act.put]
  refine wpAnyH_ready (rs := [5]) (by kernel_rfl) (by simp) ?_
  refine AllReadyH.cons rfl (fun K hK => ?_) AllReadyH.nil
  go_simp
  go_at_call 73
  refine (l6Copy_any _ _ _ _ p.core _ Z1.out.reads.c HS.out.c).mono ?_
  rintro e w2 ⟨us, ud, up_, ui, rfl, hown, hb⟩
  have OC := Lib.hid (hown.base (Nat.succ_le_of_lt hx4))
  have OX := Lib.hid (show ∀ b, DTurns u0 u1 ul b → CTurns us ud up_ ui b → False from fun b e1 e2 => by have := OL.out b e1; have := (hown.turns e2).1; omega)
  have OD2 := Lib.hid (OD.out.below hb)
  have Y1 := Lib.hid (Z1.out.below hb)
  have Y2 := Lib.hid (Z2.out.below hb Z2.out.lt)
  have B1 := Lib.hid (B2.out.trans (hb.mono B2.out.size))
  clear hb hown Z1 Z2 B2 OD OL hx4
  go_wp2_with fail
  refine hK.out _ _ Y1.out.box (fun hHeld3 => ?_)
  clear hK K
  try simp only [Act.put]
  refine wpAnyH_take (i := 8) (v := ?_) rfl (by kernel_rfl) (by kernel_rfl) (by kernel_rfl) (fun _ _ _ h => h) (Or.inl ⟨by first | kernel_rfl | rfl, ?_⟩) (by assumption) ?_
  rotate_left
  · (intro w' hSw; clear hSw; go_simp; try with_reducible rfl)
  try simp only [Act.put]
  refine wpAnyH_ready (rs := [9]) (by kernel_rfl) (by simp) ?_
  refine AllReadyH.cons rfl (fun K hK => ?_) AllReadyH.nil
  refine Eq.mpr (if_pos (by rfl)) ?_
  have OP := Lib.hid (show PoolOwn w2 (w.heap.size + 1 + 1) ⟨u0, u1, ul, us, ud, up_, ui⟩ p from ⟨OD2.out, OC.out, OX.out⟩)
  refine wp_put_mid _ _ rfl rfl aggPool rfl (PV.cells ⟨u0, u1, ul, us, ud, up_, ui⟩ p) rfl rfl OP.out.one Y2.out [] [.slice none 0 0, .slice none 0 0, .slice none 0 0, .int .i64 0, .slice none 0 0, .slice none 0 0, .slice none 0 0, .bool false, .slice none 0 0, .int .i64 0, .bool false] [] (PV.cells ⟨u0, u1, ul, us, ud, up_, ui⟩ p) rfl rfl rfl rfl ?_
  intro W4 P1 Z2
  refine hK.out _ _ (P1.box (by omega) Y1.out.box) (fun hHeld4 => ?_)
  clear hK K
  try simp only [Act.put]
  refine wpAnyH_done (by kernel_rfl) ?_ _
  go_simp
  go_wp2
  refine bodyPost_ret (results_box rfl _ (w.heap.size + 1) (PV.cells ⟨u0, u1, ul, us, ud, up_, ui⟩ p) aggPool rfl rfl Z2) rfl ⟨⟨u0, u1, ul, us, ud, up_, ui⟩, rfl, ?_, P1.below B1.out (by omega)⟩
  exact (OP.out.put P1 (by omega)).base (by omega)
end Go.Proofs.YtobjgdnmlibofaaGreat
