/-
  Whether a store is one, on both sides.
-/
import Derived.Test.YtojjenclcidnkaaGreatDoorStore
import Derived.Test.YtojjenclcidnkaaGreatDoorCok
import Derived.Test.YtojjenclcidnkaaGreatDoorDiskOk
import Derived.Test.YtojjenclcidnkaaGreatDoorDiskA
set_option maxRecDepth 100000
namespace Go.Proofs.YtojjenclcidnkaaGreatDoor
open Go.ChangeShapes Go.WideShapes Go.ChangeAt Go.RowKit Go.Proofs.Palim

/-- A store is one. -/
noncomputable def poolOkB (p : PoolM) : Bool := decide (DiskOkM p.disk) && decide ((p.disk.s0.length : Int) > 13) && decide (CoreOkM p.core)
theorem specDiskOk_is (v0 v1 vl : Value) (d : DiskM) (r : Bool) (w : World) (h : DiskR w v0 v1 vl d) (hs : DiskShort d) (hr : decide (DiskOkM d) = r) :
    Calls Tryz.prog 51 #[.agg #[v0, v1, vl]] w fun e w' => e = .returned (.bool r) ∧ Below w.heap.size w w' := hr ▸ DiskOk_any v0 v1 vl d w h hs
theorem implDiskOk_is (v0 v1 vl : Value) (d : DiskM) (r : Bool) (w : World) (h : DiskR w v0 v1 vl d) (hs : DiskShort d) (hr : decide (DiskOkM d) = r) :
    Calls Tryz.prog 103 #[.agg #[v0, v1, vl]] w fun e w' => e = .returned (.bool r) ∧ Below w.heap.size w w' := hr ▸ ImplDiskOk_any d v0 v1 vl w h hs

set_option maxHeartbeats 2000000 in
theorem specPoolOk_is (v : PV) (p : PoolM) (r : Bool) (w : World) (h : PoolR w v p) (hs : PoolShort p) (hr : poolOkB p = r) :
    Calls Tryz.prog 17 #[v.val p] w fun e w' => e = .returned (.bool r) ∧ Below w.heap.size w w' := by
  have HS := Lib.hid hs
  have hn0 := hs.d.n0
  obtain ⟨v0, v1, vl, vs, vd, vp, vi⟩ := v
  obtain ⟨_, A0, c0, e0, _, hc0, _⟩ := h.d.r0
  simp only at e0
  subst e0
  unfold maxLen at hc0
  have XA := Lib.hid (pbox_new h 47)
  have B0 := Lib.hid (Below.new1 (w := w) (.cells #[.slice A0 p.disk.s0.length c0, v1, vl, .int .i64 p.core.txg, vs, vd, vp, .bool p.core.dirty, vi, .int .i64 p.core.logn, .bool p.up] 47))
  clear h hs
  go_enter Tryz.func17, Tryz.ntmps17
  go_upto_region 1 with fail
  obtain ⟨V0, HWE⟩ : ∃ W, w.alloc (.cells #[.slice A0 p.disk.s0.length c0, v1, vl, .int .i64 p.core.txg, vs, vd, vp, .bool p.core.dirty, vi, .int .i64 p.core.logn, .bool p.up] 47) = W := ⟨_, rfl⟩
  rw [HWE] at XA B0 ⊢
  clear HWE
  go_wp2_with (refine wpList_load_cs rfl _ rfl aggDiskI rfl [.slice A0 p.disk.s0.length c0, v1, vl] rfl (PV.diskAt XA.out.box) ?_)
  unfold poolOkB at hr
  by_cases hd : DiskOkM p.disk
  case neg =>
    have ho := decide_eq_false hd
    rw [ho, Bool.false_and, Bool.false_and] at hr
    subst hr
    refine (specDiskOk_is _ _ _ p.disk _ _ XA.out.reads.d HS.out.d ho).mono ?_
    rintro e w1 ⟨rfl, hb⟩
    have B1 := Lib.hid (B0.out.trans (hb.mono B0.out.size))
    clear B0 hb XA
    go_wp2
    go_ret
    exact ⟨rfl, B1.out⟩
  have ho := decide_eq_true hd
  rw [ho, Bool.true_and] at hr
  refine (specDiskOk_is _ _ _ p.disk _ _ XA.out.reads.d HS.out.d ho).mono ?_
  rintro e w1 ⟨rfl, hb⟩
  have X1 := Lib.hid (XA.out.below hb)
  have B1 := Lib.hid (B0.out.trans (hb.mono B0.out.size))
  clear B0 hb XA ho hd
  have q0 := X1.out.box.cell 0 rfl
  by_cases hl : (p.disk.s0.length : Int) > 13
  case neg =>
    rw [decide_eq_false hl, Bool.false_and] at hr
    subst hr
    go_wp2
    go_ret
    exact ⟨rfl, B1.out⟩
  rw [decide_eq_true hl, Bool.true_and] at hr
  go_wp2_with (refine wpList_wanted (by rfl) fun _ hK => wp_load_cs _ rfl aggCore rfl (PV.kl ⟨.slice A0 p.disk.s0.length c0, v1, vl, vs, vd, vp, vi⟩ p.core) rfl (PV.coreAt X1.out.box) (hK _ _ ?_))
  refine (specCoreOk_is _ _ _ _ p.core _ _ X1.out.reads.c HS.out.c hr).mono ?_
  rintro e w2 ⟨rfl, hb⟩
  have B2 := Lib.hid (B1.out.trans (hb.mono B1.out.size))
  clear B1 hb X1
  go_wp2
  go_ret
  exact ⟨rfl, B2.out⟩

set_option maxHeartbeats 2000000 in
theorem commitFormed_is (v : PV) (p : PoolM) (r : Bool) (w : World) (h : PoolR w v p) (hs : PoolShort p) (hr : poolOkB p = r) :
    Calls Tryz.prog 62 #[.agg #[v.v0, v.v1, v.vl], cv p.core v.vs v.vd v.vp v.vi] w fun e w' => e = .returned (.bool r) ∧ Below w.heap.size w w' := by
  have HS := Lib.hid hs
  have hn0 := hs.d.n0
  obtain ⟨v0, v1, vl, vs, vd, vp, vi⟩ := v
  obtain ⟨_, A0, c0, e0, _, hc0, _⟩ := h.d.r0
  simp only at e0
  subst e0
  unfold maxLen at hc0
  obtain ⟨b1, b2, hsz, hB⟩ := box2 w #[.slice A0 p.disk.s0.length c0, v1, vl] #[.int .i64 p.core.txg, vs, vd, vp, .bool p.core.dirty, vi, .int .i64 p.core.logn] 40 45
  have XD := Lib.hid (show Box _ _ [.slice A0 p.disk.s0.length c0, v1, vl] from b1)
  have XC := Lib.hid (show Box _ _ [.int .i64 p.core.txg, vs, vd, vp, .bool p.core.dirty, vi, .int .i64 p.core.logn] from b2)
  have HR := Lib.hid (h.below hB)
  have B0 := Lib.hid hB
  clear h hs b1 b2 hB hsz
  go_enter Tryz.func62, Tryz.ntmps62
  go_upto_region 1 with fail
  obtain ⟨V0, HWE⟩ : ∃ W, (w.alloc (.cells #[.slice A0 p.disk.s0.length c0, v1, vl] 40)).alloc (.cells #[.int .i64 p.core.txg, vs, vd, vp, .bool p.core.dirty, vi, .int .i64 p.core.logn] 45) = W := ⟨_, rfl⟩
  rw [HWE] at XD XC HR B0 ⊢
  clear HWE
  go_wp2_with (refine wpList_load_box rfl _ rfl aggDiskI rfl [.slice A0 p.disk.s0.length c0, v1, vl] rfl XD.out ?_)
  unfold poolOkB at hr
  by_cases hd : DiskOkM p.disk
  case neg =>
    have ho := decide_eq_false hd
    rw [ho, Bool.false_and, Bool.false_and] at hr
    subst hr
    refine (implDiskOk_is _ _ _ p.disk _ _ HR.out.d HS.out.d ho).mono ?_
    rintro e w1 ⟨rfl, hb⟩
    have B1 := Lib.hid (B0.out.trans (hb.mono B0.out.size))
    clear B0 hb XD XC HR
    go_wp2
    go_ret
    exact ⟨rfl, B1.out⟩
  have ho := decide_eq_true hd
  rw [ho, Bool.true_and] at hr
  refine (implDiskOk_is _ _ _ p.disk _ _ HR.out.d HS.out.d ho).mono ?_
  rintro e w1 ⟨rfl, hb⟩
  have YD := Lib.hid (XD.out.below hb XD.out.lt)
  have YC := Lib.hid (XC.out.below hb XC.out.lt)
  have HR1 := Lib.hid (HR.out.below hb)
  have B1 := Lib.hid (B0.out.trans (hb.mono B0.out.size))
  clear B0 hb XD XC HR ho hd
  have q0 := YD.out.cell 0 rfl
  by_cases hl : (p.disk.s0.length : Int) > 13
  case neg =>
    rw [decide_eq_false hl, Bool.false_and] at hr
    subst hr
    go_wp2
    go_ret
    exact ⟨rfl, B1.out⟩
  rw [decide_eq_true hl, Bool.true_and] at hr
  go_wp2_with (refine wpList_load_boxG (by rfl) _ rfl aggCore rfl [.int .i64 p.core.txg, vs, vd, vp, .bool p.core.dirty, vi, .int .i64 p.core.logn] rfl YC.out ?_)
  refine (implCoreOk_is _ _ _ _ p.core _ _ HR1.out.c HS.out.c hr).mono ?_
  rintro e w2 ⟨rfl, hb⟩
  have B2 := Lib.hid (B1.out.trans (hb.mono B1.out.size))
  clear B1 hb YD YC HR1
  go_wp2
  go_ret
  exact ⟨rfl, B2.out⟩

set_option maxHeartbeats 1000000 in
theorem implPoolOk_is (v : PV) (p : PoolM) (r : Bool) (w : World) (h : PoolR w v p) (hs : PoolShort p) (hr : poolOkB p = r) :
    Calls Tryz.prog 23 #[v.val p] w fun e w' => e = .returned (.bool r) ∧ Below w.heap.size w w' := by
  have HS := Lib.hid hs
  have XA := Lib.hid (pbox_new h 47)
  have B0 := Lib.hid (Below.new1 (w := w) (.cells #[v.v0, v.v1, v.vl, .int .i64 p.core.txg, v.vs, v.vd, v.vp, .bool p.core.dirty, v.vi, .int .i64 p.core.logn, .bool p.up] 47))
  clear h hs
  go_enter Tryz.func23, Tryz.ntmps23
  go_upto_region 1 with fail
  obtain ⟨V0, HWE⟩ : ∃ W, w.alloc (.cells #[v.v0, v.v1, v.vl, .int .i64 p.core.txg, v.vs, v.vd, v.vp, .bool p.core.dirty, v.vi, .int .i64 p.core.logn, .bool p.up] 47) = W := ⟨_, rfl⟩
  rw [HWE] at XA B0 ⊢
  clear HWE
  go_wp2_with (first
    | (refine wpList_load_cs rfl _ rfl aggDiskI rfl v.dl rfl (PV.diskAt XA.out.box) ?_)
    | (refine wpList_load_cs rfl _ rfl aggCore rfl (v.kl p.core) rfl (PV.coreAt XA.out.box) ?_))
  refine (commitFormed_is v p r _ XA.out.reads HS.out hr).mono ?_
  rintro e w1 ⟨rfl, hb⟩
  have B1 := Lib.hid (B0.out.trans (hb.mono B0.out.size))
  clear B0 hb XA
  go_wp2
  go_ret
  exact ⟨rfl, B1.out⟩
end Go.Proofs.YtojjenclcidnkaaGreatDoor
