/-
  PoolSync, on both sides.
-/
import Derived.Test.YtobjgdnmlibofaaGreatPoolZ
import Derived.Test.YtobjgdnmlibofaaGreatCopy
import Derived.Test.YtobjgdnmlibofaaGreatDiskB
set_option maxRecDepth 100000
namespace Go.Proofs.YtobjgdnmlibofaaGreat
open Go.ChangeShapes Go.WideShapes Go.ChangeAt Go.RowKit Go.Proofs.Palim

noncomputable def syncM (p : PoolM) : PoolM := if poolOkB p = true then (if p.up = true then ⟨flushM p.disk, p.core, p.up⟩ else p) else noPool
theorem short_syncM {p : PoolM} (h : PoolShort p) : PoolShort (syncM p) := by
  unfold syncM
  split
  · split
    · exact ⟨short_flush h.d, h.c⟩
    · exact h
  · exact poolShort_no

set_option maxHeartbeats 4000000 in
theorem specPoolSync_any (v : PV) (p : PoolM) (w : World) (h : PoolR w v p) (hs : PoolShort p) :
    Calls Tryz.prog 12 #[v.val p] w (NewPool w (syncM p)) := by
  have hnot : ∀ (x : Bool) (w : World), (Op.unary .not (.bool x)).run Tryz.prog w = .ok (.bool (!x)) w := fun _ _ => rfl
  obtain ⟨b1, b2, hsz, hB⟩ := box2 w #[v.v0, v.v1, v.vl, .int .i64 p.core.txg, v.vs, v.vd, v.vp, .bool p.core.dirty, v.vi, .int .i64 p.core.logn, .bool p.up] #[.slice none 0 0, .slice none 0 0, .slice none 0 0, .int .i64 0, .slice none 0 0, .slice none 0 0, .slice none 0 0, .bool false, .slice none 0 0, .int .i64 0, .bool false] 46 46
  have X1 := Lib.hid (show Box _ _ (v.cells p) from b1)
  have HR := Lib.hid (h.below hB)
  have X2 := Lib.hid (show Box _ _ [.slice none 0 0, .slice none 0 0, .slice none 0 0, .int .i64 0, .slice none 0 0, .slice none 0 0, .slice none 0 0, .bool false, .slice none 0 0, .int .i64 0, .bool false] from b2)
  have B0 := Lib.hid hB
  have HS := Lib.hid hs
  clear b1 b2 hB hsz h hs
  go_enter Tryz.func12, Tryz.ntmps12
  go_upto_region 1 with fail
  obtain ⟨W, HWE⟩ : ∃ W, (w.alloc (.cells #[v.v0, v.v1, v.vl, .int .i64 p.core.txg, v.vs, v.vd, v.vp, .bool p.core.dirty, v.vi, .int .i64 p.core.logn, .bool p.up] 46)).alloc (.cells #[.slice none 0 0, .slice none 0 0, .slice none 0 0, .int .i64 0, .slice none 0 0, .slice none 0 0, .slice none 0 0, .bool false, .slice none 0 0, .int .i64 0, .bool false] 46) = W := ⟨_, rfl⟩
  rw [HWE] at X1 X2 HR B0 ⊢
  clear HWE
  obtain ⟨ok, HOK⟩ : ∃ ok, Hid (poolOkB p = ok) := ⟨_, Lib.hid rfl⟩
  go_wp2_with (refine wpList_load_box rfl _ rfl aggPool rfl (v.cells p) rfl X1.out ?_)
  refine (specPoolOk_is v p ok _ HR.out HS.out HOK.out).mono ?_
  rintro e w1 ⟨rfl, hb⟩
  have YX1 := Lib.hid (X1.out.below hb X1.out.lt)
  have YX2 := Lib.hid (X2.out.below hb X2.out.lt)
  have YHR := Lib.hid (HR.out.below hb)
  have YB := Lib.hid (B0.out.trans (hb.mono B0.out.size))
  clear hb B0 X1 X2 HR
  have X1 := YX1
  clear YX1
  have X2 := YX2
  clear YX2
  have HR := YHR
  clear YHR
  have B0 := YB
  clear YB
  cases ok
  case false =>
    have HM := Lib.hid (show syncM p = noPool from if_neg (by rw [HOK.out]; simp))
    clear HOK HS HR
    go_wp2_with (first
      | (refine wpList_build0 rfl rfl _ built_pool0 ?_)
      | (refine wpList_put_mid rfl _ _ rfl rfl aggPool rfl [.slice none 0 0, .slice none 0 0, .slice none 0 0, .int .i64 0, .slice none 0 0, .slice none 0 0, .slice none 0 0, .bool false, .slice none 0 0, .int .i64 0, .bool false] rfl rfl (by simp [Value.oneCell']) X2.out [] [.slice none 0 0, .slice none 0 0, .slice none 0 0, .int .i64 0, .slice none 0 0, .slice none 0 0, .slice none 0 0, .bool false, .slice none 0 0, .int .i64 0, .bool false] [] [.slice none 0 0, .slice none 0 0, .slice none 0 0, .int .i64 0, .slice none 0 0, .slice none 0 0, .slice none 0 0, .bool false, .slice none 0 0, .int .i64 0, .bool false] rfl rfl rfl rfl ?_))
    intro W9 P9 Z9
    go_wp2
    refine bodyPost_ret (results_box rfl _ (w.heap.size + 1) [.slice none 0 0, .slice none 0 0, .slice none 0 0, .int .i64 0, .slice none 0 0, .slice none 0 0, .slice none 0 0, .bool false, .slice none 0 0, .int .i64 0, .bool false] aggPool rfl rfl Z9) rfl ⟨noPV, (by have h := HM.out; rw [h]; first | done | rfl), (by have h := HM.out; rw [h]; exact poolOwn_no _ _), P9.below B0.out (by omega)⟩
  case true =>
  go_wp2_with (refine wpList_load_box rfl _ rfl aggPool rfl (v.cells p) rfl X1.out ?_)
  refine (l10Copy_any v p _ HR.out HS.out).mono ?_
  rintro e w2 ⟨u, rfl, hown, hb⟩
  have hx2 : w.heap.size + 1 < w1.heap.size := X2.out.lt
  have OP := Lib.hid (hown.base (Nat.succ_le_of_lt hx2))
  clear hown
  have YX1 := Lib.hid (X1.out.below hb X1.out.lt)
  have YX2 := Lib.hid (X2.out.below hb X2.out.lt)
  have YHR := Lib.hid (HR.out.below hb)
  have YB := Lib.hid (B0.out.trans (hb.mono B0.out.size))
  clear hb B0 X1 X2 HR
  have X1 := YX1
  clear YX1
  have X2 := YX2
  clear YX2
  have HR := YHR
  clear YHR
  have B0 := YB
  clear YB
  have hx2w : w.heap.size + 1 < w2.heap.size := X2.out.lt
  have OLT := Lib.hid OP.out.reads.lt
  go_wp2_with (refine wpList_put_mid rfl _ _ rfl rfl aggPool rfl (u.cells p) rfl rfl OP.out.reads.one (box_new _ _ _) [] [.slice none 0 0, .slice none 0 0, .slice none 0 0, .int .i64 0, .slice none 0 0, .slice none 0 0, .slice none 0 0, .bool false, .slice none 0 0, .int .i64 0, .bool false] [] (u.cells p) rfl rfl rfl rfl ?_)
  intro W3 P1 Z1
  have hb := putAt_new P1
  have X3 := Lib.hid Z1
  have OPn := Lib.hid (OP.out.below hb)
  clear P1 Z1 OP
  have OP := OPn
  clear OPn HR X1
  have YX2 := Lib.hid (X2.out.below hb X2.out.lt)
  have YB := Lib.hid (B0.out.trans (hb.mono B0.out.size))
  clear hb B0 X2
  have X2 := YX2
  clear YX2
  have B0 := YB
  clear YB
  have hx3 : w2.heap.size < W3.heap.size := X3.out.lt
  have q10 := X3.out.cell 10 rfl
  obtain ⟨up, HU⟩ : ∃ up, Hid (p.up = up) := ⟨_, Lib.hid rfl⟩
  rw [HU.out] at q10
  cases up
  case false =>
    have HM := Lib.hid (show syncM p = p from by unfold syncM; rw [if_pos HOK.out, HU.out, if_neg (by simp)])
    go_wp2_with (first
      | (refine wpList_load_box rfl _ rfl aggPool rfl (u.cells p) rfl X3.out ?_)
      | (refine wpList_put_mid rfl _ _ rfl rfl aggPool rfl (u.cells p) rfl rfl OP.out.reads.one X2.out [] [.slice none 0 0, .slice none 0 0, .slice none 0 0, .int .i64 0, .slice none 0 0, .slice none 0 0, .slice none 0 0, .bool false, .slice none 0 0, .int .i64 0, .bool false] [] (u.cells p) rfl rfl rfl rfl ?_))
    intro W9 P9 Z9
    go_wp2
    refine bodyPost_ret (results_box rfl _ (w.heap.size + 1) (u.cells p) aggPool rfl rfl Z9) rfl ⟨u, (by have h := HM.out; rw [h]; first | done | rfl), ?_, P9.below B0.out (by omega)⟩
    rw [HM.out]
    exact (OP.out.put P9 (by omega)).base (by omega)
  case true =>
  have HM := Lib.hid (show syncM p = ⟨flushM p.disk, p.core, p.up⟩ from by unfold syncM; rw [if_pos HOK.out, if_pos HU.out])
  go_wp2_with (refine wpList_load_cs rfl _ rfl aggDiskI rfl u.dl rfl (PV.diskAt X3.out) ?_)
  refine (DiskFlush_any _ _ _ p.disk _ OP.out.d.reads HS.out.d).mono ?_
  rintro e w4 ⟨g0, g1, gl, rfl, hown, hb⟩
  have HD4 := Lib.hid (fun b (e : DTurns g0 g1 gl b) => hown.turns e)
  have HGL := Lib.hid (show ∀ b, DTurns g0 g1 gl b → CTurns u.vs u.vd u.vp u.vi b → False from fun b e1 e2 => by have := (hown.turns e1).1; have := (OP.out.c.turns e2).2; omega)
  have OD := Lib.hid (hown.base (show w.heap.size + 1 + 1 ≤ W3.heap.size by omega))
  obtain ⟨G0, c0, G1, c1, Gl, cl, rfl, rfl, rfl⟩ := hown.forms
  have OC := Lib.hid (OP.out.c.below hb)
  clear hown
  have YX2 := Lib.hid (X2.out.below hb X2.out.lt)
  have YX3 := Lib.hid (X3.out.below hb X3.out.lt)
  have YB := Lib.hid (B0.out.trans (hb.mono B0.out.size))
  clear hb B0 X2 X3
  have X2 := YX2
  clear YX2
  have X3 := YX3
  clear YX3
  have B0 := YB
  clear YB
  clear OP
  have OP := Lib.hid (show PoolOwn w4 (w.heap.size + 1 + 1) (PV.mk (.slice G0 (flushM p.disk).s0.length c0) (.slice G1 (flushM p.disk).s1.length c1) (.slice Gl (flushM p.disk).late.length cl) u.vs u.vd u.vp u.vi) ⟨flushM p.disk, p.core, p.up⟩ from ⟨OD.out, OC.out, HGL.out⟩)
  have ON := Lib.hid OP.out.reads.one
  clear OD OC HGL
  go_wp2_with (refine wpList_put_mid rfl _ _ rfl rfl aggDiskI rfl [.slice G0 (flushM p.disk).s0.length c0, .slice G1 (flushM p.disk).s1.length c1, .slice Gl (flushM p.disk).late.length cl] rfl rfl (by simp [Value.oneCell']) X3.out [] u.dl (u.kl p.core ++ [.bool p.up]) ((PV.mk (.slice G0 (flushM p.disk).s0.length c0) (.slice G1 (flushM p.disk).s1.length c1) (.slice Gl (flushM p.disk).late.length cl) u.vs u.vd u.vp u.vi).cells ⟨flushM p.disk, p.core, p.up⟩) rfl rfl rfl rfl ?_)
  intro W5 P1 Z1
  have X4 := Lib.hid Z1
  have X2n := Lib.hid (P1.box (by omega) X2.out)
  have OPn := Lib.hid (OP.out.keptT (w' := W5) (fun b e => P1.block b (fun e2 => by
    subst e2
    rcases e with e | e
    · have := (HD4.out _ e).1; omega
    · have := OLT.out _ (Or.inr e); omega)))
  have B1 := Lib.hid (P1.below B0.out (by omega))
  clear P1 Z1 OP X2 B0 X3 q10
  have OP := OPn
  have X2 := X2n
  have B0 := B1
  clear OPn X2n B1
  go_wp2_with (first
    | (refine wpList_load_box rfl _ rfl aggPool rfl ((PV.mk (.slice G0 (flushM p.disk).s0.length c0) (.slice G1 (flushM p.disk).s1.length c1) (.slice Gl (flushM p.disk).late.length cl) u.vs u.vd u.vp u.vi).cells ⟨flushM p.disk, p.core, p.up⟩) rfl X4.out ?_)
    | (refine wpList_put_mid rfl _ _ rfl rfl aggPool rfl ((PV.mk (.slice G0 (flushM p.disk).s0.length c0) (.slice G1 (flushM p.disk).s1.length c1) (.slice Gl (flushM p.disk).late.length cl) u.vs u.vd u.vp u.vi).cells ⟨flushM p.disk, p.core, p.up⟩) rfl rfl ON.out X2.out [] [.slice none 0 0, .slice none 0 0, .slice none 0 0, .int .i64 0, .slice none 0 0, .slice none 0 0, .slice none 0 0, .bool false, .slice none 0 0, .int .i64 0, .bool false] [] ((PV.mk (.slice G0 (flushM p.disk).s0.length c0) (.slice G1 (flushM p.disk).s1.length c1) (.slice Gl (flushM p.disk).late.length cl) u.vs u.vd u.vp u.vi).cells ⟨flushM p.disk, p.core, p.up⟩) rfl rfl rfl rfl ?_))
  intro W9 P9 Z9
  go_wp2
  refine bodyPost_ret (results_box rfl _ (w.heap.size + 1) ((PV.mk (.slice G0 (flushM p.disk).s0.length c0) (.slice G1 (flushM p.disk).s1.length c1) (.slice Gl (flushM p.disk).late.length cl) u.vs u.vd u.vp u.vi).cells ⟨flushM p.disk, p.core, p.up⟩) aggPool rfl rfl Z9) rfl ⟨(PV.mk (.slice G0 (flushM p.disk).s0.length c0) (.slice G1 (flushM p.disk).s1.length c1) (.slice Gl (flushM p.disk).late.length cl) u.vs u.vd u.vp u.vi), (by have h := HM.out; rw [h]; first | done | rfl), ?_, P9.below B0.out (by omega)⟩
  rw [HM.out]
  exact (OP.out.put P9 (by omega)).base (by omega)

set_option maxHeartbeats 4000000 in
theorem implPoolSync_any (v : PV) (p : PoolM) (w : World) (h : PoolR w v p) (hs : PoolShort p) :
    Calls Tryz.prog 13 #[v.val p] w (NewPool w (syncM p)) := by
  have hnot : ∀ (x : Bool) (w : World), (Op.unary .not (.bool x)).run Tryz.prog w = .ok (.bool (!x)) w := fun _ _ => rfl
  obtain ⟨b1, b2, hsz, hB⟩ := box2 w #[v.v0, v.v1, v.vl, .int .i64 p.core.txg, v.vs, v.vd, v.vp, .bool p.core.dirty, v.vi, .int .i64 p.core.logn, .bool p.up] #[.slice none 0 0, .slice none 0 0, .slice none 0 0, .int .i64 0, .slice none 0 0, .slice none 0 0, .slice none 0 0, .bool false, .slice none 0 0, .int .i64 0, .bool false] 46 46
  have X1 := Lib.hid (show Box _ _ (v.cells p) from b1)
  have HR := Lib.hid (h.below hB)
  have X2 := Lib.hid (show Box _ _ [.slice none 0 0, .slice none 0 0, .slice none 0 0, .int .i64 0, .slice none 0 0, .slice none 0 0, .slice none 0 0, .bool false, .slice none 0 0, .int .i64 0, .bool false] from b2)
  have B0 := Lib.hid hB
  have HS := Lib.hid hs
  clear b1 b2 hB hsz h hs
  go_enter Tryz.func13, Tryz.ntmps13
  go_upto_region 1 with fail
  obtain ⟨W, HWE⟩ : ∃ W, (w.alloc (.cells #[v.v0, v.v1, v.vl, .int .i64 p.core.txg, v.vs, v.vd, v.vp, .bool p.core.dirty, v.vi, .int .i64 p.core.logn, .bool p.up] 46)).alloc (.cells #[.slice none 0 0, .slice none 0 0, .slice none 0 0, .int .i64 0, .slice none 0 0, .slice none 0 0, .slice none 0 0, .bool false, .slice none 0 0, .int .i64 0, .bool false] 46) = W := ⟨_, rfl⟩
  rw [HWE] at X1 X2 HR B0 ⊢
  clear HWE
  obtain ⟨ok, HOK⟩ : ∃ ok, Hid (poolOkB p = ok) := ⟨_, Lib.hid rfl⟩
  go_wp2_with (refine wpList_load_box rfl _ rfl aggPool rfl (v.cells p) rfl X1.out ?_)
  refine (implPoolOk_is v p ok _ HR.out HS.out HOK.out).mono ?_
  rintro e w1 ⟨rfl, hb⟩
  have YX1 := Lib.hid (X1.out.below hb X1.out.lt)
  have YX2 := Lib.hid (X2.out.below hb X2.out.lt)
  have YHR := Lib.hid (HR.out.below hb)
  have YB := Lib.hid (B0.out.trans (hb.mono B0.out.size))
  clear hb B0 X1 X2 HR
  have X1 := YX1
  clear YX1
  have X2 := YX2
  clear YX2
  have HR := YHR
  clear YHR
  have B0 := YB
  clear YB
  cases ok
  case false =>
    have HM := Lib.hid (show syncM p = noPool from if_neg (by rw [HOK.out]; simp))
    clear HOK HS HR
    go_wp2_with (first
      | (refine wpList_build0 rfl rfl _ built_pool0 ?_)
      | (refine wpList_put_mid rfl _ _ rfl rfl aggPool rfl [.slice none 0 0, .slice none 0 0, .slice none 0 0, .int .i64 0, .slice none 0 0, .slice none 0 0, .slice none 0 0, .bool false, .slice none 0 0, .int .i64 0, .bool false] rfl rfl (by simp [Value.oneCell']) X2.out [] [.slice none 0 0, .slice none 0 0, .slice none 0 0, .int .i64 0, .slice none 0 0, .slice none 0 0, .slice none 0 0, .bool false, .slice none 0 0, .int .i64 0, .bool false] [] [.slice none 0 0, .slice none 0 0, .slice none 0 0, .int .i64 0, .slice none 0 0, .slice none 0 0, .slice none 0 0, .bool false, .slice none 0 0, .int .i64 0, .bool false] rfl rfl rfl rfl ?_))
    intro W9 P9 Z9
    go_wp2
    refine bodyPost_ret (results_box rfl _ (w.heap.size + 1) [.slice none 0 0, .slice none 0 0, .slice none 0 0, .int .i64 0, .slice none 0 0, .slice none 0 0, .slice none 0 0, .bool false, .slice none 0 0, .int .i64 0, .bool false] aggPool rfl rfl Z9) rfl ⟨noPV, (by have h := HM.out; rw [h]; first | done | rfl), (by have h := HM.out; rw [h]; exact poolOwn_no _ _), P9.below B0.out (by omega)⟩
  case true =>
  go_wp2_with (refine wpList_load_box rfl _ rfl aggPool rfl (v.cells p) rfl X1.out ?_)
  refine (poolCopy_any v p _ HR.out HS.out).mono ?_
  rintro e w2 ⟨u, rfl, hown, hb⟩
  have hx2 : w.heap.size + 1 < w1.heap.size := X2.out.lt
  have OP := Lib.hid (hown.base (Nat.succ_le_of_lt hx2))
  clear hown
  have YX1 := Lib.hid (X1.out.below hb X1.out.lt)
  have YX2 := Lib.hid (X2.out.below hb X2.out.lt)
  have YHR := Lib.hid (HR.out.below hb)
  have YB := Lib.hid (B0.out.trans (hb.mono B0.out.size))
  clear hb B0 X1 X2 HR
  have X1 := YX1
  clear YX1
  have X2 := YX2
  clear YX2
  have HR := YHR
  clear YHR
  have B0 := YB
  clear YB
  have hx2w : w.heap.size + 1 < w2.heap.size := X2.out.lt
  go_wp2_with (refine wpList_put_mid rfl _ _ rfl rfl aggPool rfl (u.cells p) rfl rfl OP.out.reads.one X1.out [] (v.cells p) [] (u.cells p) rfl rfl rfl rfl ?_)
  intro W3 P1 Z1
  have X3 := Lib.hid Z1
  have X2n := Lib.hid (P1.box (by omega) X2.out)
  have OPn := Lib.hid (OP.out.put P1 (by omega))
  have B1 := Lib.hid (P1.below B0.out (by omega))
  have hs3 := P1.size
  clear P1 Z1 OP X2 B0 HR X1
  have OP := OPn
  have X2 := X2n
  have B0 := B1
  clear OPn X2n B1
  have hx3 : w.heap.size < W3.heap.size := X3.out.lt
  have q10 := X3.out.cell 10 rfl
  obtain ⟨up, HU⟩ : ∃ up, Hid (p.up = up) := ⟨_, Lib.hid rfl⟩
  rw [HU.out] at q10
  cases up
  case false =>
    have HM := Lib.hid (show syncM p = p from by unfold syncM; rw [if_pos HOK.out, HU.out, if_neg (by simp)])
    go_wp2_with (first
      | (refine wpList_load_box rfl _ rfl aggPool rfl (u.cells p) rfl X3.out ?_)
      | (refine wpList_put_mid rfl _ _ rfl rfl aggPool rfl (u.cells p) rfl rfl OP.out.reads.one X2.out [] [.slice none 0 0, .slice none 0 0, .slice none 0 0, .int .i64 0, .slice none 0 0, .slice none 0 0, .slice none 0 0, .bool false, .slice none 0 0, .int .i64 0, .bool false] [] (u.cells p) rfl rfl rfl rfl ?_))
    intro W9 P9 Z9
    go_wp2
    refine bodyPost_ret (results_box rfl _ (w.heap.size + 1) (u.cells p) aggPool rfl rfl Z9) rfl ⟨u, (by have h := HM.out; rw [h]; first | done | rfl), ?_, P9.below B0.out (by omega)⟩
    rw [HM.out]
    exact (OP.out.put P9 (by omega)).base (by omega)
  case true =>
  have HM := Lib.hid (show syncM p = ⟨flushM p.disk, p.core, p.up⟩ from by unfold syncM; rw [if_pos HOK.out, if_pos HU.out])
  go_wp2_with (refine wpList_load_cs rfl _ rfl aggDiskI rfl u.dl rfl (PV.diskAt X3.out) ?_)
  refine (ImplDiskFlush_any p.disk _ _ _ _ OP.out.d.reads HS.out.d).mono ?_
  rintro e w4 ⟨g0, g1, gl, rfl, hown, hb⟩
  have HGL := Lib.hid (show ∀ b, DTurns g0 g1 gl b → CTurns u.vs u.vd u.vp u.vi b → False from fun b e1 e2 => by have := (hown.turns e1).1; have := (OP.out.c.turns e2).2; omega)
  have OD := Lib.hid (hown.base (show w.heap.size + 1 + 1 ≤ W3.heap.size by omega))
  obtain ⟨G0, c0, G1, c1, Gl, cl, rfl, rfl, rfl⟩ := hown.forms
  have OC := Lib.hid (OP.out.c.below hb)
  clear hown
  have YX2 := Lib.hid (X2.out.below hb X2.out.lt)
  have YX3 := Lib.hid (X3.out.below hb X3.out.lt)
  have YB := Lib.hid (B0.out.trans (hb.mono B0.out.size))
  clear hb B0 X2 X3
  have X2 := YX2
  clear YX2
  have X3 := YX3
  clear YX3
  have B0 := YB
  clear YB
  clear OP
  have OP := Lib.hid (show PoolOwn w4 (w.heap.size + 1 + 1) (PV.mk (.slice G0 (flushM p.disk).s0.length c0) (.slice G1 (flushM p.disk).s1.length c1) (.slice Gl (flushM p.disk).late.length cl) u.vs u.vd u.vp u.vi) ⟨flushM p.disk, p.core, p.up⟩ from ⟨OD.out, OC.out, HGL.out⟩)
  have ON := Lib.hid OP.out.reads.one
  clear OD OC HGL
  go_wp2_with (refine wpList_put_mid rfl _ _ rfl rfl aggDiskI rfl [.slice G0 (flushM p.disk).s0.length c0, .slice G1 (flushM p.disk).s1.length c1, .slice Gl (flushM p.disk).late.length cl] rfl rfl (by simp [Value.oneCell']) X3.out [] u.dl (u.kl p.core ++ [.bool p.up]) ((PV.mk (.slice G0 (flushM p.disk).s0.length c0) (.slice G1 (flushM p.disk).s1.length c1) (.slice Gl (flushM p.disk).late.length cl) u.vs u.vd u.vp u.vi).cells ⟨flushM p.disk, p.core, p.up⟩) rfl rfl rfl rfl ?_)
  intro W5 P1 Z1
  have X4 := Lib.hid Z1
  have X2n := Lib.hid (P1.box (by omega) X2.out)
  have OPn := Lib.hid (OP.out.put P1 (by omega))
  have B1 := Lib.hid (P1.below B0.out (by omega))
  clear P1 Z1 OP X2 B0 X3 q10
  have OP := OPn
  have X2 := X2n
  have B0 := B1
  clear OPn X2n B1
  go_wp2_with (first
    | (refine wpList_load_box rfl _ rfl aggPool rfl ((PV.mk (.slice G0 (flushM p.disk).s0.length c0) (.slice G1 (flushM p.disk).s1.length c1) (.slice Gl (flushM p.disk).late.length cl) u.vs u.vd u.vp u.vi).cells ⟨flushM p.disk, p.core, p.up⟩) rfl X4.out ?_)
    | (refine wpList_put_mid rfl _ _ rfl rfl aggPool rfl ((PV.mk (.slice G0 (flushM p.disk).s0.length c0) (.slice G1 (flushM p.disk).s1.length c1) (.slice Gl (flushM p.disk).late.length cl) u.vs u.vd u.vp u.vi).cells ⟨flushM p.disk, p.core, p.up⟩) rfl rfl ON.out X2.out [] [.slice none 0 0, .slice none 0 0, .slice none 0 0, .int .i64 0, .slice none 0 0, .slice none 0 0, .slice none 0 0, .bool false, .slice none 0 0, .int .i64 0, .bool false] [] ((PV.mk (.slice G0 (flushM p.disk).s0.length c0) (.slice G1 (flushM p.disk).s1.length c1) (.slice Gl (flushM p.disk).late.length cl) u.vs u.vd u.vp u.vi).cells ⟨flushM p.disk, p.core, p.up⟩) rfl rfl rfl rfl ?_))
  intro W9 P9 Z9
  go_wp2
  refine bodyPost_ret (results_box rfl _ (w.heap.size + 1) ((PV.mk (.slice G0 (flushM p.disk).s0.length c0) (.slice G1 (flushM p.disk).s1.length c1) (.slice Gl (flushM p.disk).late.length cl) u.vs u.vd u.vp u.vi).cells ⟨flushM p.disk, p.core, p.up⟩) aggPool rfl rfl Z9) rfl ⟨(PV.mk (.slice G0 (flushM p.disk).s0.length c0) (.slice G1 (flushM p.disk).s1.length c1) (.slice Gl (flushM p.disk).late.length cl) u.vs u.vd u.vp u.vi), (by have h := HM.out; rw [h]; first | done | rfl), ?_, P9.below B0.out (by omega)⟩
  rw [HM.out]
  exact (OP.out.put P9 (by omega)).base (by omega)
end Go.Proofs.YtobjgdnmlibofaaGreat
