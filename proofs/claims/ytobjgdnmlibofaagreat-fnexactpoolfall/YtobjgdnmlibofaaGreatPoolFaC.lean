/-
  PoolFall, on both sides.
-/
import Derived.Test.YtobjgdnmlibofaaGreatPoolZ
import Derived.Test.YtobjgdnmlibofaaGreatDiskFall
import Derived.Test.YtobjgdnmlibofaaGreatImDiskFall
set_option maxRecDepth 100000
namespace Go.Proofs.YtobjgdnmlibofaaGreat
open Go.ChangeShapes Go.WideShapes Go.ChangeAt Go.RowKit Go.Proofs.Palim

noncomputable def fallP (p : PoolM) (fs : List Int) : PoolM := if poolOkB p = true then ⟨fallM p.disk fs, noCore, false⟩ else noPool
theorem short_fallP {p : PoolM} {fs : List Int} (h : PoolShort p) : PoolShort (fallP p fs) := by
  unfold fallP
  split
  · exact ⟨short_fall h.d, coreShort_no⟩
  · exact poolShort_no

set_option maxHeartbeats 4000000 in
theorem specPoolFall_any (v : PV) (p : PoolM) (vf : Value) (fs : List Int) (w : World) (h : PoolR w v p) (hs : PoolShort p) (hf : Sl w 1 vf fs.length (ics fs)) (hfl : Low w.heap.size vf) (hfn : fs.length ≤ 1048576) :
    Calls Tryz.prog 16 #[v.val p, vf] w (NewPool w (fallP p fs)) := by
  have hnot : ∀ (x : Bool) (w : World), (Op.unary .not (.bool x)).run Tryz.prog w = .ok (.bool (!x)) w := fun _ _ => rfl
  obtain ⟨b1, b2, hsz, hB⟩ := box2 w #[v.v0, v.v1, v.vl, .int .i64 p.core.txg, v.vs, v.vd, v.vp, .bool p.core.dirty, v.vi, .int .i64 p.core.logn, .bool p.up] #[.slice none 0 0, .slice none 0 0, .slice none 0 0, .int .i64 0, .slice none 0 0, .slice none 0 0, .slice none 0 0, .bool false, .slice none 0 0, .int .i64 0, .bool false] 46 46
  have X1 := Lib.hid (show Box _ _ (v.cells p) from b1)
  have HR := Lib.hid (h.below hB)
  have X2 := Lib.hid (show Box _ _ [.slice none 0 0, .slice none 0 0, .slice none 0 0, .int .i64 0, .slice none 0 0, .slice none 0 0, .slice none 0 0, .bool false, .slice none 0 0, .int .i64 0, .bool false] from b2)
  have B0 := Lib.hid hB
  have HS := Lib.hid hs
  have HF := Lib.hid hf
  have HFL := Lib.hid hfl
  have HFN := Lib.hid hfn
  obtain ⟨_, FA, fc, rfl, _, _, _⟩ := hf
  clear hfl hfn
  clear b1 b2 hB hsz h hs
  go_enter Tryz.func16, Tryz.ntmps16
  go_upto_region 1 with fail
  obtain ⟨W, HWE⟩ : ∃ W, (w.alloc (.cells #[v.v0, v.v1, v.vl, .int .i64 p.core.txg, v.vs, v.vd, v.vp, .bool p.core.dirty, v.vi, .int .i64 p.core.logn, .bool p.up] 46)).alloc (.cells #[.slice none 0 0, .slice none 0 0, .slice none 0 0, .int .i64 0, .slice none 0 0, .slice none 0 0, .slice none 0 0, .bool false, .slice none 0 0, .int .i64 0, .bool false] 46) = W := ⟨_, rfl⟩
  rw [HWE] at X1 X2 HR B0 ⊢
  clear HWE
  obtain ⟨ok, HOK⟩ : ∃ ok, Hid (poolOkB p = ok) := ⟨_, Lib.hid rfl⟩
  go_wp2_with (refine wpList_load_box rfl _ rfl aggPool rfl (v.cells p) rfl X1.out ?_)
  refine (specPoolOk_is v p ok _ HR.out HS.out HOK.out).mono ?_
  rintro e w1 ⟨rfl, hb⟩
  have YX1 := Lib.hid (X1.out.below hb X1.out.lt)
  have YX2 := Lib.hid (X2.out.below hb X2.out.lt)
  have YHR := Lib.hid (HR.out.below hb)
  have YB := Lib.hid (B0.out.trans (hb.mono B0.out.size))
  clear hb B0 X1 X2 HR
  have X1 := YX1
  clear YX1
  have X2 := YX2
  clear YX2
  have HR := YHR
  clear YHR
  have B0 := YB
  clear YB
  cases ok
  case false =>
    have HM := Lib.hid (show fallP p fs = noPool from if_neg (by rw [HOK.out]; simp))
    clear HOK HS HR
    go_wp2_with (first
      | (refine wpList_build0 rfl rfl _ built_pool0 ?_)
      | (refine wpList_put_mid rfl _ _ rfl rfl aggPool rfl [.slice none 0 0, .slice none 0 0, .slice none 0 0, .int .i64 0, .slice none 0 0, .slice none 0 0, .slice none 0 0, .bool false, .slice none 0 0, .int .i64 0, .bool false] rfl rfl (by simp [Value.oneCell']) X2.out [] [.slice none 0 0, .slice none 0 0, .slice none 0 0, .int .i64 0, .slice none 0 0, .slice none 0 0, .slice none 0 0, .bool false, .slice none 0 0, .int .i64 0, .bool false] [] [.slice none 0 0, .slice none 0 0, .slice none 0 0, .int .i64 0, .slice none 0 0, .slice none 0 0, .slice none 0 0, .bool false, .slice none 0 0, .int .i64 0, .bool false] rfl rfl rfl rfl ?_))
    intro W9 P9 Z9
    go_wp2
    refine bodyPost_ret (results_box rfl _ (w.heap.size + 1) [.slice none 0 0, .slice none 0 0, .slice none 0 0, .int .i64 0, .slice none 0 0, .slice none 0 0, .slice none 0 0, .bool false, .slice none 0 0, .int .i64 0, .bool false] aggPool rfl rfl Z9) rfl ⟨noPV, (by have h := HM.out; rw [h]; first | done | rfl), (by have h := HM.out; rw [h]; exact poolOwn_no _ _), P9.below B0.out (by omega)⟩
  case true =>
  have HM := Lib.hid (show fallP p fs = ⟨fallM p.disk fs, noCore, false⟩ from if_pos HOK.out)
  have hx2 : w.heap.size + 1 < w1.heap.size := X2.out.lt
  go_wp2_with (refine wpList_load_cs rfl _ rfl aggDiskI rfl v.dl rfl (PV.diskAt X1.out) ?_)
  refine (DiskFall_any _ _ _ _ p.disk fs _ HR.out.d HS.out.d (HF.out.below B0.out HFL.out) (fun b e => Nat.lt_of_lt_of_le (HFL.out b e) B0.out.size) HFN.out).mono ?_
  rintro e w4 ⟨g0, g1, gl, rfl, hown, hb⟩
  have OP := Lib.hid (show PoolOwn w4 (w.heap.size + 1 + 1) ⟨g0, g1, gl, .slice none 0 0, .slice none 0 0, .slice none 0 0, .slice none 0 0⟩ ⟨fallM p.disk fs, noCore, false⟩ from ⟨hown.base (Nat.succ_le_of_lt hx2), coreOwn_no _ _, fun _ _ h => cturns_no h⟩)
  clear hown HR X1
  have YX2 := Lib.hid (X2.out.below hb X2.out.lt)
  have YB := Lib.hid (B0.out.trans (hb.mono B0.out.size))
  clear hb B0 X2
  have X2 := YX2
  clear YX2
  have B0 := YB
  clear YB
  go_wp2_with (first
    | (refine wpList_put_mid rfl _ _ rfl rfl aggPool rfl ((PV.mk g0 g1 gl (.slice none 0 0) (.slice none 0 0) (.slice none 0 0) (.slice none 0 0)).cells ⟨fallM p.disk fs, noCore, false⟩) rfl rfl OP.out.reads.one X2.out [] [.slice none 0 0, .slice none 0 0, .slice none 0 0, .int .i64 0, .slice none 0 0, .slice none 0 0, .slice none 0 0, .bool false, .slice none 0 0, .int .i64 0, .bool false] [] ((PV.mk g0 g1 gl (.slice none 0 0) (.slice none 0 0) (.slice none 0 0) (.slice none 0 0)).cells ⟨fallM p.disk fs, noCore, false⟩) rfl rfl rfl rfl ?_))
  intro W9 P9 Z9
  go_wp2
  refine bodyPost_ret (results_box rfl _ (w.heap.size + 1) ((PV.mk g0 g1 gl (.slice none 0 0) (.slice none 0 0) (.slice none 0 0) (.slice none 0 0)).cells ⟨fallM p.disk fs, noCore, false⟩) aggPool rfl rfl Z9) rfl ⟨(PV.mk g0 g1 gl (.slice none 0 0) (.slice none 0 0) (.slice none 0 0) (.slice none 0 0)), (by have h := HM.out; rw [h]; first | done | rfl), ?_, P9.below B0.out (by omega)⟩
  rw [HM.out]
  exact (OP.out.put P9 (by omega)).base (by omega)

set_option maxHeartbeats 4000000 in
theorem implPoolFall_any (v : PV) (p : PoolM) (vf : Value) (fs : List Int) (w : World) (h : PoolR w v p) (hs : PoolShort p) (hf : Sl w 1 vf fs.length (ics fs)) (hfl : Low w.heap.size vf) (hfn : fs.length ≤ 1048576) :
    Calls Tryz.prog 18 #[v.val p, vf] w (NewPool w (fallP p fs)) := by
  have hnot : ∀ (x : Bool) (w : World), (Op.unary .not (.bool x)).run Tryz.prog w = .ok (.bool (!x)) w := fun _ _ => rfl
  obtain ⟨b1, b2, hsz, hB⟩ := box2 w #[v.v0, v.v1, v.vl, .int .i64 p.core.txg, v.vs, v.vd, v.vp, .bool p.core.dirty, v.vi, .int .i64 p.core.logn, .bool p.up] #[.slice none 0 0, .slice none 0 0, .slice none 0 0, .int .i64 0, .slice none 0 0, .slice none 0 0, .slice none 0 0, .bool false, .slice none 0 0, .int .i64 0, .bool false] 46 46
  have X1 := Lib.hid (show Box _ _ (v.cells p) from b1)
  have HR := Lib.hid (h.below hB)
  have X2 := Lib.hid (show Box _ _ [.slice none 0 0, .slice none 0 0, .slice none 0 0, .int .i64 0, .slice none 0 0, .slice none 0 0, .slice none 0 0, .bool false, .slice none 0 0, .int .i64 0, .bool false] from b2)
  have B0 := Lib.hid hB
  have HS := Lib.hid hs
  have HF := Lib.hid hf
  have HFL := Lib.hid hfl
  have HFN := Lib.hid hfn
  obtain ⟨_, FA, fc, rfl, _, _, _⟩ := hf
  clear hfl hfn
  clear b1 b2 hB hsz h hs
  go_enter Tryz.func18, Tryz.ntmps18
  go_upto_region 1 with fail
  obtain ⟨W, HWE⟩ : ∃ W, (w.alloc (.cells #[v.v0, v.v1, v.vl, .int .i64 p.core.txg, v.vs, v.vd, v.vp, .bool p.core.dirty, v.vi, .int .i64 p.core.logn, .bool p.up] 46)).alloc (.cells #[.slice none 0 0, .slice none 0 0, .slice none 0 0, .int .i64 0, .slice none 0 0, .slice none 0 0, .slice none 0 0, .bool false, .slice none 0 0, .int .i64 0, .bool false] 46) = W := ⟨_, rfl⟩
  rw [HWE] at X1 X2 HR B0 ⊢
  clear HWE
  obtain ⟨ok, HOK⟩ : ∃ ok, Hid (poolOkB p = ok) := ⟨_, Lib.hid rfl⟩
  go_wp2_with (refine wpList_load_box rfl _ rfl aggPool rfl (v.cells p) rfl X1.out ?_)
  refine (implPoolOk_is v p ok _ HR.out HS.out HOK.out).mono ?_
  rintro e w1 ⟨rfl, hb⟩
  have YX1 := Lib.hid (X1.out.below hb X1.out.lt)
  have YX2 := Lib.hid (X2.out.below hb X2.out.lt)
  have YHR := Lib.hid (HR.out.below hb)
  have YB := Lib.hid (B0.out.trans (hb.mono B0.out.size))
  clear hb B0 X1 X2 HR
  have X1 := YX1
  clear YX1
  have X2 := YX2
  clear YX2
  have HR := YHR
  clear YHR
  have B0 := YB
  clear YB
  cases ok
  case false =>
    have HM := Lib.hid (show fallP p fs = noPool from if_neg (by rw [HOK.out]; simp))
    clear HOK HS HR
    go_wp2_with (first
      | (refine wpList_build0 rfl rfl _ built_pool0 ?_)
      | (refine wpList_put_mid rfl _ _ rfl rfl aggPool rfl [.slice none 0 0, .slice none 0 0, .slice none 0 0, .int .i64 0, .slice none 0 0, .slice none 0 0, .slice none 0 0, .bool false, .slice none 0 0, .int .i64 0, .bool false] rfl rfl (by simp [Value.oneCell']) X2.out [] [.slice none 0 0, .slice none 0 0, .slice none 0 0, .int .i64 0, .slice none 0 0, .slice none 0 0, .slice none 0 0, .bool false, .slice none 0 0, .int .i64 0, .bool false] [] [.slice none 0 0, .slice none 0 0, .slice none 0 0, .int .i64 0, .slice none 0 0, .slice none 0 0, .slice none 0 0, .bool false, .slice none 0 0, .int .i64 0, .bool false] rfl rfl rfl rfl ?_))
    intro W9 P9 Z9
    go_wp2
    refine bodyPost_ret (results_box rfl _ (w.heap.size + 1) [.slice none 0 0, .slice none 0 0, .slice none 0 0, .int .i64 0, .slice none 0 0, .slice none 0 0, .slice none 0 0, .bool false, .slice none 0 0, .int .i64 0, .bool false] aggPool rfl rfl Z9) rfl ⟨noPV, (by have h := HM.out; rw [h]; first | done | rfl), (by have h := HM.out; rw [h]; exact poolOwn_no _ _), P9.below B0.out (by omega)⟩
  case true =>
  have HM := Lib.hid (show fallP p fs = ⟨fallM p.disk fs, noCore, false⟩ from if_pos HOK.out)
  have hx2 : w.heap.size + 1 < w1.heap.size := X2.out.lt
  go_wp2_with (refine wpList_load_cs rfl _ rfl aggDiskI rfl v.dl rfl (PV.diskAt X1.out) ?_)
  refine (ImplDiskFall_any p.disk fs _ _ _ _ _ HR.out.d HS.out.d (HF.out.below B0.out HFL.out) (fun b e => Nat.lt_of_lt_of_le (HFL.out b e) B0.out.size) HFN.out).mono ?_
  rintro e w4 ⟨g0, g1, gl, rfl, hown, hb⟩
  have OP := Lib.hid (show PoolOwn w4 (w.heap.size + 1 + 1) ⟨g0, g1, gl, .slice none 0 0, .slice none 0 0, .slice none 0 0, .slice none 0 0⟩ ⟨fallM p.disk fs, noCore, false⟩ from ⟨hown.base (Nat.succ_le_of_lt hx2), coreOwn_no _ _, fun _ _ h => cturns_no h⟩)
  clear hown HR X1
  have YX2 := Lib.hid (X2.out.below hb X2.out.lt)
  have YB := Lib.hid (B0.out.trans (hb.mono B0.out.size))
  clear hb B0 X2
  have X2 := YX2
  clear YX2
  have B0 := YB
  clear YB
  go_wp2_with (first
    | (refine wpList_put_mid rfl _ _ rfl rfl aggPool rfl ((PV.mk g0 g1 gl (.slice none 0 0) (.slice none 0 0) (.slice none 0 0) (.slice none 0 0)).cells ⟨fallM p.disk fs, noCore, false⟩) rfl rfl OP.out.reads.one X2.out [] [.slice none 0 0, .slice none 0 0, .slice none 0 0, .int .i64 0, .slice none 0 0, .slice none 0 0, .slice none 0 0, .bool false, .slice none 0 0, .int .i64 0, .bool false] [] ((PV.mk g0 g1 gl (.slice none 0 0) (.slice none 0 0) (.slice none 0 0) (.slice none 0 0)).cells ⟨fallM p.disk fs, noCore, false⟩) rfl rfl rfl rfl ?_))
  intro W9 P9 Z9
  go_wp2
  refine bodyPost_ret (results_box rfl _ (w.heap.size + 1) ((PV.mk g0 g1 gl (.slice none 0 0) (.slice none 0 0) (.slice none 0 0) (.slice none 0 0)).cells ⟨fallM p.disk fs, noCore, false⟩) aggPool rfl rfl Z9) rfl ⟨(PV.mk g0 g1 gl (.slice none 0 0) (.slice none 0 0) (.slice none 0 0) (.slice none 0 0)), (by have h := HM.out; rw [h]; first | done | rfl), ?_, P9.below B0.out (by omega)⟩
  rw [HM.out]
  exact (OP.out.put P9 (by omega)).base (by omega)
end Go.Proofs.YtobjgdnmlibofaaGreat
