/-
  PoolRot, on both sides.
-/
import Derived.Test.YtobjgdnmlibofaaGreatPoolZ
import Derived.Test.YtobjgdnmlibofaaGreatCopy
import Derived.Test.YtobjgdnmlibofaaGreatDiskB
import Derived.Test.YtobjgdnmlibofaaGreatImDiskRot
set_option maxRecDepth 100000
namespace Go.Proofs.YtobjgdnmlibofaaGreat
open Go.ChangeShapes Go.WideShapes Go.ChangeAt Go.RowKit Go.Proofs.Palim

noncomputable def rotP (p : PoolM) (side at_ k mask : Int) : PoolM := if poolOkB p = true then ⟨rotM p.disk side at_ k mask, p.core, p.up⟩ else noPool
theorem short_rotP {p : PoolM} {side at_ k mask : Int} (h : PoolShort p) : PoolShort (rotP p side at_ k mask) := by
  unfold rotP
  split
  · exact ⟨short_rot h.d, h.c⟩
  · exact poolShort_no

set_option maxHeartbeats 4000000 in
theorem specPoolRot_any (v : PV) (p : PoolM) (side at_ k mask : Int) (w : World) (h : PoolR w v p) (hs : PoolShort p) :
    Calls Tryz.prog 21 #[v.val p, .int .i64 side, .int .i64 at_, .int .i64 k, .int .i64 mask] w (NewPool w (rotP p side at_ k mask)) := by
  have hnot : ∀ (x : Bool) (w : World), (Op.unary .not (.bool x)).run Tryz.prog w = .ok (.bool (!x)) w := fun _ _ => rfl
  obtain ⟨b1, b2, hsz, hB⟩ := box2 w #[v.v0, v.v1, v.vl, .int .i64 p.core.txg, v.vs, v.vd, v.vp, .bool p.core.dirty, v.vi, .int .i64 p.core.logn, .bool p.up] #[.slice none 0 0, .slice none 0 0, .slice none 0 0, .int .i64 0, .slice none 0 0, .slice none 0 0, .slice none 0 0, .bool false, .slice none 0 0, .int .i64 0, .bool false] 46 46
  have X1 := Lib.hid (show Box _ _ (v.cells p) from b1)
  have HR := Lib.hid (h.below hB)
  have X2 := Lib.hid (show Box _ _ [.slice none 0 0, .slice none 0 0, .slice none 0 0, .int .i64 0, .slice none 0 0, .slice none 0 0, .slice none 0 0, .bool false, .slice none 0 0, .int .i64 0, .bool false] from b2)
  have B0 := Lib.hid hB
  have HS := Lib.hid hs
  clear b1 b2 hB hsz h hs
  go_enter Tryz.func21, Tryz.ntmps21
  go_upto_region 1 with fail
  obtain ⟨W, HWE⟩ : ∃ W, (w.alloc (.cells #[v.v0, v.v1, v.vl, .int .i64 p.core.txg, v.vs, v.vd, v.vp, .bool p.core.dirty, v.vi, .int .i64 p.core.logn, .bool p.up] 46)).alloc (.cells #[.slice none 0 0, .slice none 0 0, .slice none 0 0, .int .i64 0, .slice none 0 0, .slice none 0 0, .slice none 0 0, .bool false, .slice none 0 0, .int .i64 0, .bool false] 46) = W := ⟨_, rfl⟩
  rw [HWE] at X1 X2 HR B0 ⊢
  clear HWE
  obtain ⟨ok, HOK⟩ : ∃ ok, Hid (poolOkB p = ok) := ⟨_, Lib.hid rfl⟩
  go_wp2_with (refine wpList_load_box rfl _ rfl aggPool rfl (v.cells p) rfl X1.out ?_)
  refine (specPoolOk_is v p ok _ HR.out HS.out HOK.out).mono ?_
  rintro e w1 ⟨rfl, hb⟩
  have YX1 := Lib.hid (X1.out.below hb X1.out.lt)
  have YX2 := Lib.hid (X2.out.below hb X2.out.lt)
  have YHR := Lib.hid (HR.out.below hb)
  have YB := Lib.hid (B0.out.trans (hb.mono B0.out.size))
  clear hb B0 X1 X2 HR
  have X1 := YX1
  clear YX1
  have X2 := YX2
  clear YX2
  have HR := YHR
  clear YHR
  have B0 := YB
  clear YB
  cases ok
  case false =>
    have HM := Lib.hid (show rotP p side at_ k mask = noPool from if_neg (by rw [HOK.out]; simp))
    clear HOK HS HR
    go_wp2_with (first
      | (refine wpList_build0 rfl rfl _ built_pool0 ?_)
      | (refine wpList_put_mid rfl _ _ rfl rfl aggPool rfl [.slice none 0 0, .slice none 0 0, .slice none 0 0, .int .i64 0, .slice none 0 0, .slice none 0 0, .slice none 0 0, .bool false, .slice none 0 0, .int .i64 0, .bool false] rfl rfl (by simp [Value.oneCell']) X2.out [] [.slice none 0 0, .slice none 0 0, .slice none 0 0, .int .i64 0, .slice none 0 0, .slice none 0 0, .slice none 0 0, .bool false, .slice none 0 0, .int .i64 0, .bool false] [] [.slice none 0 0, .slice none 0 0, .slice none 0 0, .int .i64 0, .slice none 0 0, .slice none 0 0, .slice none 0 0, .bool false, .slice none 0 0, .int .i64 0, .bool false] rfl rfl rfl rfl ?_))
    intro W9 P9 Z9
    go_wp2
    refine bodyPost_ret (results_box rfl _ (w.heap.size + 1) [.slice none 0 0, .slice none 0 0, .slice none 0 0, .int .i64 0, .slice none 0 0, .slice none 0 0, .slice none 0 0, .bool false, .slice none 0 0, .int .i64 0, .bool false] aggPool rfl rfl Z9) rfl ⟨noPV, (by have h := HM.out; rw [h]; first | done | rfl), (by have h := HM.out; rw [h]; exact poolOwn_no _ _), P9.below B0.out (by omega)⟩
  case true =>
  have HM := Lib.hid (show rotP p side at_ k mask = ⟨rotM p.disk side at_ k mask, p.core, p.up⟩ from if_pos HOK.out)
  go_wp2_with (refine wpList_load_box rfl _ rfl aggPool rfl (v.cells p) rfl X1.out ?_)
  refine (l10Copy_any v p _ HR.out HS.out).mono ?_
  rintro e w2 ⟨u, rfl, hown, hb⟩
  have hx2 : w.heap.size + 1 < w1.heap.size := X2.out.lt
  have OP := Lib.hid (hown.base (Nat.succ_le_of_lt hx2))
  clear hown
  have YX1 := Lib.hid (X1.out.below hb X1.out.lt)
  have YX2 := Lib.hid (X2.out.below hb X2.out.lt)
  have YHR := Lib.hid (HR.out.below hb)
  have YB := Lib.hid (B0.out.trans (hb.mono B0.out.size))
  clear hb B0 X1 X2 HR
  have X1 := YX1
  clear YX1
  have X2 := YX2
  clear YX2
  have HR := YHR
  clear YHR
  have B0 := YB
  clear YB
  have hx2w : w.heap.size + 1 < w2.heap.size := X2.out.lt
  have OLT := Lib.hid OP.out.reads.lt
  go_wp2_with (refine wpList_put_mid rfl _ _ rfl rfl aggPool rfl (u.cells p) rfl rfl OP.out.reads.one (box_new _ _ _) [] [.slice none 0 0, .slice none 0 0, .slice none 0 0, .int .i64 0, .slice none 0 0, .slice none 0 0, .slice none 0 0, .bool false, .slice none 0 0, .int .i64 0, .bool false] [] (u.cells p) rfl rfl rfl rfl ?_)
  intro W3 P1 Z1
  have hb := putAt_new P1
  have X3 := Lib.hid Z1
  have OPn := Lib.hid (OP.out.below hb)
  clear P1 Z1 OP
  have OP := OPn
  clear OPn HR X1
  have YX2 := Lib.hid (X2.out.below hb X2.out.lt)
  have YB := Lib.hid (B0.out.trans (hb.mono B0.out.size))
  clear hb B0 X2
  have X2 := YX2
  clear YX2
  have B0 := YB
  clear YB
  have hx3 : w2.heap.size < W3.heap.size := X3.out.lt
  go_wp2_with (refine wpList_load_cs rfl _ rfl aggDiskI rfl u.dl rfl (PV.diskAt X3.out) ?_)
  refine (DiskRot_any _ _ _ p.disk side at_ k mask _ OP.out.d.reads HS.out.d).mono ?_
  rintro e w4 ⟨g0, g1, gl, rfl, hown, hb⟩
  have HD4 := Lib.hid (fun b (e : DTurns g0 g1 gl b) => hown.turns e)
  have HGL := Lib.hid (show ∀ b, DTurns g0 g1 gl b → CTurns u.vs u.vd u.vp u.vi b → False from fun b e1 e2 => by have := (hown.turns e1).1; have := (OP.out.c.turns e2).2; omega)
  have OD := Lib.hid (hown.base (show w.heap.size + 1 + 1 ≤ W3.heap.size by omega))
  obtain ⟨G0, c0, G1, c1, Gl, cl, rfl, rfl, rfl⟩ := hown.forms
  have OC := Lib.hid (OP.out.c.below hb)
  clear hown
  have YX2 := Lib.hid (X2.out.below hb X2.out.lt)
  have YX3 := Lib.hid (X3.out.below hb X3.out.lt)
  have YB := Lib.hid (B0.out.trans (hb.mono B0.out.size))
  clear hb B0 X2 X3
  have X2 := YX2
  clear YX2
  have X3 := YX3
  clear YX3
  have B0 := YB
  clear YB
  clear OP
  have OP := Lib.hid (show PoolOwn w4 (w.heap.size + 1 + 1) (PV.mk (.slice G0 (rotM p.disk side at_ k mask).s0.length c0) (.slice G1 (rotM p.disk side at_ k mask).s1.length c1) (.slice Gl (rotM p.disk side at_ k mask).late.length cl) u.vs u.vd u.vp u.vi) ⟨rotM p.disk side at_ k mask, p.core, p.up⟩ from ⟨OD.out, OC.out, HGL.out⟩)
  have ON := Lib.hid OP.out.reads.one
  clear OD OC HGL
  go_wp2_with (refine wpList_put_mid rfl _ _ rfl rfl aggDiskI rfl [.slice G0 (rotM p.disk side at_ k mask).s0.length c0, .slice G1 (rotM p.disk side at_ k mask).s1.length c1, .slice Gl (rotM p.disk side at_ k mask).late.length cl] rfl rfl (by simp [Value.oneCell']) X3.out [] u.dl (u.kl p.core ++ [.bool p.up]) ((PV.mk (.slice G0 (rotM p.disk side at_ k mask).s0.length c0) (.slice G1 (rotM p.disk side at_ k mask).s1.length c1) (.slice Gl (rotM p.disk side at_ k mask).late.length cl) u.vs u.vd u.vp u.vi).cells ⟨rotM p.disk side at_ k mask, p.core, p.up⟩) rfl rfl rfl rfl ?_)
  intro W5 P1 Z1
  have X4 := Lib.hid Z1
  have X2n := Lib.hid (P1.box (by omega) X2.out)
  have OPn := Lib.hid (OP.out.keptT (w' := W5) (fun b e => P1.block b (fun e2 => by
    subst e2
    rcases e with e | e
    · have := (HD4.out _ e).1; omega
    · have := OLT.out _ (Or.inr e); omega)))
  have B1 := Lib.hid (P1.below B0.out (by omega))
  clear P1 Z1 OP X2 B0 X3
  have OP := OPn
  have X2 := X2n
  have B0 := B1
  clear OPn X2n B1
  go_wp2_with (first
    | (refine wpList_load_box rfl _ rfl aggPool rfl ((PV.mk (.slice G0 (rotM p.disk side at_ k mask).s0.length c0) (.slice G1 (rotM p.disk side at_ k mask).s1.length c1) (.slice Gl (rotM p.disk side at_ k mask).late.length cl) u.vs u.vd u.vp u.vi).cells ⟨rotM p.disk side at_ k mask, p.core, p.up⟩) rfl X4.out ?_)
    | (refine wpList_put_mid rfl _ _ rfl rfl aggPool rfl ((PV.mk (.slice G0 (rotM p.disk side at_ k mask).s0.length c0) (.slice G1 (rotM p.disk side at_ k mask).s1.length c1) (.slice Gl (rotM p.disk side at_ k mask).late.length cl) u.vs u.vd u.vp u.vi).cells ⟨rotM p.disk side at_ k mask, p.core, p.up⟩) rfl rfl ON.out X2.out [] [.slice none 0 0, .slice none 0 0, .slice none 0 0, .int .i64 0, .slice none 0 0, .slice none 0 0, .slice none 0 0, .bool false, .slice none 0 0, .int .i64 0, .bool false] [] ((PV.mk (.slice G0 (rotM p.disk side at_ k mask).s0.length c0) (.slice G1 (rotM p.disk side at_ k mask).s1.length c1) (.slice Gl (rotM p.disk side at_ k mask).late.length cl) u.vs u.vd u.vp u.vi).cells ⟨rotM p.disk side at_ k mask, p.core, p.up⟩) rfl rfl rfl rfl ?_))
  intro W9 P9 Z9
  go_wp2
  refine bodyPost_ret (results_box rfl _ (w.heap.size + 1) ((PV.mk (.slice G0 (rotM p.disk side at_ k mask).s0.length c0) (.slice G1 (rotM p.disk side at_ k mask).s1.length c1) (.slice Gl (rotM p.disk side at_ k mask).late.length cl) u.vs u.vd u.vp u.vi).cells ⟨rotM p.disk side at_ k mask, p.core, p.up⟩) aggPool rfl rfl Z9) rfl ⟨(PV.mk (.slice G0 (rotM p.disk side at_ k mask).s0.length c0) (.slice G1 (rotM p.disk side at_ k mask).s1.length c1) (.slice Gl (rotM p.disk side at_ k mask).late.length cl) u.vs u.vd u.vp u.vi), (by have h := HM.out; rw [h]; first | done | rfl), ?_, P9.below B0.out (by omega)⟩
  rw [HM.out]
  exact (OP.out.put P9 (by omega)).base (by omega)

set_option maxHeartbeats 4000000 in
theorem implPoolRot_any (v : PV) (p : PoolM) (side at_ k mask : Int) (w : World) (h : PoolR w v p) (hs : PoolShort p) :
    Calls Tryz.prog 22 #[v.val p, .int .i64 side, .int .i64 at_, .int .i64 k, .int .i64 mask] w (NewPool w (rotP p side at_ k mask)) := by
  have hnot : ∀ (x : Bool) (w : World), (Op.unary .not (.bool x)).run Tryz.prog w = .ok (.bool (!x)) w := fun _ _ => rfl
  obtain ⟨b1, b2, hsz, hB⟩ := box2 w #[v.v0, v.v1, v.vl, .int .i64 p.core.txg, v.vs, v.vd, v.vp, .bool p.core.dirty, v.vi, .int .i64 p.core.logn, .bool p.up] #[.slice none 0 0, .slice none 0 0, .slice none 0 0, .int .i64 0, .slice none 0 0, .slice none 0 0, .slice none 0 0, .bool false, .slice none 0 0, .int .i64 0, .bool false] 46 46
  have X1 := Lib.hid (show Box _ _ (v.cells p) from b1)
  have HR := Lib.hid (h.below hB)
  have X2 := Lib.hid (show Box _ _ [.slice none 0 0, .slice none 0 0, .slice none 0 0, .int .i64 0, .slice none 0 0, .slice none 0 0, .slice none 0 0, .bool false, .slice none 0 0, .int .i64 0, .bool false] from b2)
  have B0 := Lib.hid hB
  have HS := Lib.hid hs
  clear b1 b2 hB hsz h hs
  go_enter Tryz.func22, Tryz.ntmps22
  go_upto_region 1 with fail
  obtain ⟨W, HWE⟩ : ∃ W, (w.alloc (.cells #[v.v0, v.v1, v.vl, .int .i64 p.core.txg, v.vs, v.vd, v.vp, .bool p.core.dirty, v.vi, .int .i64 p.core.logn, .bool p.up] 46)).alloc (.cells #[.slice none 0 0, .slice none 0 0, .slice none 0 0, .int .i64 0, .slice none 0 0, .slice none 0 0, .slice none 0 0, .bool false, .slice none 0 0, .int .i64 0, .bool false] 46) = W := ⟨_, rfl⟩
  rw [HWE] at X1 X2 HR B0 ⊢
  clear HWE
  obtain ⟨ok, HOK⟩ : ∃ ok, Hid (poolOkB p = ok) := ⟨_, Lib.hid rfl⟩
  go_wp2_with (refine wpList_load_box rfl _ rfl aggPool rfl (v.cells p) rfl X1.out ?_)
  refine (implPoolOk_is v p ok _ HR.out HS.out HOK.out).mono ?_
  rintro e w1 ⟨rfl, hb⟩
  have YX1 := Lib.hid (X1.out.below hb X1.out.lt)
  have YX2 := Lib.hid (X2.out.below hb X2.out.lt)
  have YHR := Lib.hid (HR.out.below hb)
  have YB := Lib.hid (B0.out.trans (hb.mono B0.out.size))
  clear hb B0 X1 X2 HR
  have X1 := YX1
  clear YX1
  have X2 := YX2
  clear YX2
  have HR := YHR
  clear YHR
  have B0 := YB
  clear YB
  cases ok
  case false =>
    have HM := Lib.hid (show rotP p side at_ k mask = noPool from if_neg (by rw [HOK.out]; simp))
    clear HOK HS HR
    go_wp2_with (first
      | (refine wpList_build0 rfl rfl _ built_pool0 ?_)
      | (refine wpList_put_mid rfl _ _ rfl rfl aggPool rfl [.slice none 0 0, .slice none 0 0, .slice none 0 0, .int .i64 0, .slice none 0 0, .slice none 0 0, .slice none 0 0, .bool false, .slice none 0 0, .int .i64 0, .bool false] rfl rfl (by simp [Value.oneCell']) X2.out [] [.slice none 0 0, .slice none 0 0, .slice none 0 0, .int .i64 0, .slice none 0 0, .slice none 0 0, .slice none 0 0, .bool false, .slice none 0 0, .int .i64 0, .bool false] [] [.slice none 0 0, .slice none 0 0, .slice none 0 0, .int .i64 0, .slice none 0 0, .slice none 0 0, .slice none 0 0, .bool false, .slice none 0 0, .int .i64 0, .bool false] rfl rfl rfl rfl ?_))
    intro W9 P9 Z9
    go_wp2
    refine bodyPost_ret (results_box rfl _ (w.heap.size + 1) [.slice none 0 0, .slice none 0 0, .slice none 0 0, .int .i64 0, .slice none 0 0, .slice none 0 0, .slice none 0 0, .bool false, .slice none 0 0, .int .i64 0, .bool false] aggPool rfl rfl Z9) rfl ⟨noPV, (by have h := HM.out; rw [h]; first | done | rfl), (by have h := HM.out; rw [h]; exact poolOwn_no _ _), P9.below B0.out (by omega)⟩
  case true =>
  have HM := Lib.hid (show rotP p side at_ k mask = ⟨rotM p.disk side at_ k mask, p.core, p.up⟩ from if_pos HOK.out)
  go_wp2_with fail
  refine wp_region_held_drew (S := fun w' => Box w' w.heap.size (v.cells p)) (by kernel_rfl) X1.out (fun hHeld => ?_)
  have Y1 := Lib.hid X1.out.drew
  have Y2 := Lib.hid X2.out.drew
  have B1 := Lib.hid B0.out.drew
  have HR1 := Lib.hid HR.out.drew
  have hx3 : w.heap.size + 1 < w1.drew.heap.size := X2.out.lt
  clear X1 X2 B0 HR
  generalize w1.drew = wd at hHeld Y1 Y2 B1 HR1 hx3 ⊢
  refine wpAnyH_take (i := 0) (v := ?_) rfl (by kernel_rfl) (by kernel_rfl) (by kernel_rfl) (fun _ _ _ h => h) (Or.inl ⟨by first | kernel_rfl | rfl, ?_⟩) (by assumption) ?_
  rotate_left
  · (intro w' hSw; have q10 := hSw.cell 10 rfl; clear hSw; go_simp; try with_reducible rfl)
  try simp only [Act.put]
  refine wpAnyH_take (i := 1) (v := .agg (v.dl).toArray) rfl (by kernel_rfl) (by kernel_rfl) (by kernel_rfl) (fun _ _ _ h => h) (Or.inl ⟨by first | kernel_rfl | rfl, fun w' hSw => exec_load_cs _ rfl aggDiskI rfl (v.dl) rfl (PV.diskAt hSw)⟩) (by assumption) ?_
  try simp only [Act.put]
  refine wpAnyH_take (i := 2) (v := ?_) rfl (by kernel_rfl) (by kernel_rfl) (by kernel_rfl) (fun _ _ _ h => h) (Or.inl ⟨by first | kernel_rfl | rfl, ?_⟩) (by assumption) ?_
  rotate_left
  · (intro w' hSw; have q10 := hSw.cell 10 rfl; clear hSw; go_simp; try with_reducible rfl)
  try simp only [Act.put]
  refine wpAnyH_take (i := 3) (v := ?_) rfl (by kernel_rfl) (by kernel_rfl) (by kernel_rfl) (fun _ _ _ h => h) (Or.inl ⟨by first | kernel_rfl | rfl, ?_⟩) (by assumption) ?_
  rotate_left
  · (intro w' hSw; have q10 := hSw.cell 10 rfl; clear hSw; go_simp; try with_reducible rfl)
  try simp only [Act.put]
  refine wpAnyH_take (i := 4) (v := ?_) rfl (by kernel_rfl) (by kernel_rfl) (by kernel_rfl) (fun _ _ _ h => h) (Or.inl ⟨by first | kernel_rfl | rfl, ?_⟩) (by assumption) ?_
  rotate_left
  · (intro w' hSw; have q10 := hSw.cell 10 rfl; clear hSw; go_simp; try with_reducible rfl)
  try simp only [Act.put]
  refine wpAnyH_take (i := 5) (v := ?_) rfl (by kernel_rfl) (by kernel_rfl) (by kernel_rfl) (fun _ _ _ h => h) (Or.inl ⟨by first | kernel_rfl | rfl, ?_⟩) (by assumption) ?_
  rotate_left
  · (intro w' hSw; have q10 := hSw.cell 10 rfl; clear hSw; go_simp; try with_reducible rfl)
  try simp only [Act.put]
  refine wpAnyH_take (i := 7) (v := ?_) rfl (by kernel_rfl) (by kernel_rfl) (by kernel_rfl) (fun _ _ _ h => h) (Or.inl ⟨by first | kernel_rfl | rfl, ?_⟩) (by assumption) ?_
  rotate_left
  · (intro w' hSw; have q10 := hSw.cell 10 rfl; clear hSw; go_simp; try with_reducible rfl)
  try simp only [Act.put]
  refine wpAnyH_take (i := 8) (v := .agg (v.kl p.core).toArray) rfl (by kernel_rfl) (by kernel_rfl) (by kernel_rfl) (fun _ _ _ h => h) (Or.inl ⟨by first | kernel_rfl | rfl, fun w' hSw => exec_load_cs _ rfl aggCore rfl (v.kl p.core) rfl (PV.coreAt hSw)⟩) (by assumption) ?_
  try simp only [Act.put]
  refine wpAnyH_take (i := 10) (v := ?_) rfl (by kernel_rfl) (by kernel_rfl) (by kernel_rfl) (fun _ _ _ h => h) (Or.inl ⟨by first | kernel_rfl | rfl, ?_⟩) (by assumption) ?_
  rotate_left
  · (intro w' hSw; have q10 := hSw.cell 10 rfl; clear hSw; go_simp; try with_reducible rfl)
  try simp only [Act.put]
  refine wpAnyH_take (i := 11) (v := ?_) rfl (by kernel_rfl) (by kernel_rfl) (by kernel_rfl) (fun _ _ _ h => h) (Or.inl ⟨by first | kernel_rfl | rfl, ?_⟩) (by assumption) ?_
  rotate_left
  · (intro w' hSw; have q10 := hSw.cell 10 rfl; clear hSw; go_simp; try with_reducible rfl)
  try simp only [Act.put]
  refine wpAnyH_ready (rs := [6]) (by kernel_rfl) (by simp) ?_
  refine AllReadyH.cons rfl (fun K hK => ?_) AllReadyH.nil
  go_simp
  go_at_call 43
  refine (ImplDiskRot_any p.disk side at_ k mask _ _ _ _ HR1.out.d HS.out.d).mono ?_
  rintro e w2 ⟨g0, g1, gl, rfl, hown, hb⟩
  have OD := Lib.hid (hown.base (Nat.succ_le_of_lt hx3))
  have OL := Lib.hid (show ∀ b, DTurns g0 g1 gl b → b < w2.heap.size from fun b e => (hown.turns e).2)
  have Z1 := Lib.hid (Y1.out.below hb Y1.out.lt)
  have Z2 := Lib.hid (Y2.out.below hb Y2.out.lt)
  have HR2 := Lib.hid (HR1.out.below hb)
  have B2 := Lib.hid (B1.out.trans (hb.mono B1.out.size))
  have hx4 : w.heap.size + 1 < w2.heap.size := Nat.lt_of_lt_of_le hx3 hb.size
  clear hb hown Y1 Y2 B1 hx3 HR1
  go_wp2_with fail
  refine hK.out _ _ Z1.out (fun hHeld2 => ?_)
  clear hK K
  try simp only [Act.put]
  refine wpAnyH_ready (rs := [9]) (by kernel_rfl) (by simp) ?_
  refine AllReadyH.cons rfl (fun K hK => ?_) AllReadyH.nil
  go_simp
  go_at_call 44
  refine (coreCopy_any _ _ _ _ p.core _ HR2.out.c HS.out.c).mono ?_
  rintro e w3 ⟨us, ud, up_, ui, rfl, hown, hb⟩
  have OC := Lib.hid (hown.base (Nat.succ_le_of_lt hx4))
  have OX := Lib.hid (show ∀ b, DTurns g0 g1 gl b → CTurns us ud up_ ui b → False from fun b e1 e2 => by have := OL.out b e1; have := (hown.turns e2).1; omega)
  have OD2 := Lib.hid (OD.out.below hb)
  have Y1 := Lib.hid (Z1.out.below hb Z1.out.lt)
  have Y2 := Lib.hid (Z2.out.below hb Z2.out.lt)
  have B1 := Lib.hid (B2.out.trans (hb.mono B2.out.size))
  clear hb hown Z1 Z2 B2 OD OL hx4 HR2
  go_wp2_with fail
  refine hK.out _ _ Y1.out (fun hHeld3 => ?_)
  clear hK K
  try simp only [Act.put]
  refine wpAnyH_take (i := 12) (v := ?_) rfl (by kernel_rfl) (by kernel_rfl) (by kernel_rfl) (fun _ _ _ h => h) (Or.inl ⟨by first | kernel_rfl | rfl, ?_⟩) (by assumption) ?_
  rotate_left
  · (intro w' hSw; clear hSw; go_simp; try with_reducible rfl)
  try simp only [Act.put]
  refine wpAnyH_ready (rs := [13]) (by kernel_rfl) (by simp) ?_
  refine AllReadyH.cons rfl (fun K hK => ?_) AllReadyH.nil
  refine Eq.mpr (if_pos (by rfl)) ?_
  have OP := Lib.hid (show PoolOwn w3 (w.heap.size + 1 + 1) (PV.mk g0 g1 gl us ud up_ ui) ⟨rotM p.disk side at_ k mask, p.core, p.up⟩ from ⟨OD2.out, OC.out, OX.out⟩)
  refine wp_put_mid _ _ rfl rfl aggPool rfl ((PV.mk g0 g1 gl us ud up_ ui).cells ⟨rotM p.disk side at_ k mask, p.core, p.up⟩) rfl rfl OP.out.reads.one Y2.out [] [.slice none 0 0, .slice none 0 0, .slice none 0 0, .int .i64 0, .slice none 0 0, .slice none 0 0, .slice none 0 0, .bool false, .slice none 0 0, .int .i64 0, .bool false] [] ((PV.mk g0 g1 gl us ud up_ ui).cells ⟨rotM p.disk side at_ k mask, p.core, p.up⟩) rfl rfl rfl rfl ?_
  intro W4 P1 Z2
  refine hK.out _ _ (P1.box (by omega) Y1.out) (fun hHeld4 => ?_)
  clear hK K
  try simp only [Act.put]
  refine wpAnyH_done (by kernel_rfl) ?_ _
  go_simp
  go_wp2
  refine bodyPost_ret (results_box rfl _ (w.heap.size + 1) ((PV.mk g0 g1 gl us ud up_ ui).cells ⟨rotM p.disk side at_ k mask, p.core, p.up⟩) aggPool rfl rfl Z2) rfl ⟨(PV.mk g0 g1 gl us ud up_ ui), (by have h := HM.out; rw [h]; first | done | rfl), ?_, P1.below B1.out (by omega)⟩
  rw [HM.out]
  exact (OP.out.put P1 (by omega)).base (by omega)
end Go.Proofs.YtobjgdnmlibofaaGreat
