/-
  A store of the call's own marked: what it holds then; asked for its marks.
-/
import Derived.Test.YtobjgdnmlibofaaGreatPoolV
import Derived.Test.YtobjgdnmlibofaaGreatCoreHd
set_option maxRecDepth 100000
namespace Go.Proofs.YtobjgdnmlibofaaGreat
open Go.ChangeShapes Go.WideShapes Go.ChangeAt Go.RowKit Go.Proofs.Palim

theorem DiskOwn.keptT {w w' : World} {base : Nat} {v0 v1 vl : Value} {d : DiskM} (h : DiskOwn w base v0 v1 vl d) (hb : ∀ b, DTurns v0 v1 vl b → w'.heap[b]? = w.heap[b]?) : DiskOwn w' base v0 v1 vl d :=
  ⟨own_kept h.o0 fun b e => hb b (Or.inl e), own_kept h.o1 fun b e => hb b (Or.inr (Or.inl e)), own_kept h.ol fun b e => hb b (Or.inr (Or.inr e)), h.p01, h.p0l, h.p1l⟩
theorem CoreOwn.keptT {w w' : World} {base : Nat} {vs vd vp vi : Value} {c : CoreM} (h : CoreOwn w base vs vd vp vi c) (hb : ∀ b, CTurns vs vd vp vi b → w'.heap[b]? = w.heap[b]?) : CoreOwn w' base vs vd vp vi c :=
  ⟨own_kept h.s fun b e => hb b (Or.inl e), own_kept h.d fun b e => hb b (Or.inr (Or.inl e)), own_kept h.p fun b e => hb b (Or.inr (Or.inr (Or.inl e))), own_kept h.i fun b e => hb b (Or.inr (Or.inr (Or.inr e))), h.sd, h.sp, h.si, h.dp, h.di, h.pi⟩
theorem PoolOwn.keptT {w w' : World} {base : Nat} {v : PV} {p : PoolM} (h : PoolOwn w base v p) (hb : ∀ b, PTurns v b → w'.heap[b]? = w.heap[b]?) : PoolOwn w' base v p := ⟨h.d.keptT fun b e => hb b (Or.inl e), h.c.keptT fun b e => hb b (Or.inr e), h.x⟩
/-- How many marks a disk takes, from k on. -/
def dend (k : Nat) (d : DiskM) : Nat := k + d.s0.length + d.s1.length + 3 * d.late.length
def pend (k : Nat) (p : PoolM) : Nat := cend (dend k p.disk) p.core.sets.length p.core.ddt.length p.core.parts.length p.core.safe.length
theorem pend_small {p : PoolM} (hs : PoolShort p) {k : Nat} (hk : k ≤ 50000000) : pend k p ≤ 100000000 := by
  have := hs.d.n0; have := hs.d.n1; have := hs.d.nl; have := hs.c.s; have := hs.c.d; have := hs.c.p; have := hs.c.i
  unfold pend cend dend; omega
/-- A store of the call's own that holds the marks from k on. -/
structure PoolHd (k : Nat) (w : World) (base : Nat) (v : PV) (p : PoolM) : Prop where
  d : DiskOwn w base v.v0 v.v1 v.vl (dmarks k p.disk.s0.length p.disk.s1.length p.disk.late.length)
  c : CoreHd (dend k p.disk) w base v.vs v.vd v.vp v.vi p.core.sets.length p.core.ddt.length p.core.parts.length p.core.safe.length
theorem PoolHd.below {k : Nat} {w w' : World} {base : Nat} {v : PV} {p : PoolM} (h : PoolHd k w base v p) (hb : Below w.heap.size w w') : PoolHd k w' base v p := ⟨h.d.kept fun b hl _ => hb.block b hl, h.c.kept fun b hl _ => hb.block b hl⟩
theorem PoolHd.drew {k : Nat} {w : World} {base : Nat} {v : PV} {p : PoolM} (h : PoolHd k w base v p) : PoolHd k w.drew base v p := ⟨h.d.kept fun _ _ _ => rfl, h.c.kept fun _ _ _ => rfl⟩

set_option maxHeartbeats 1000000 in
theorem markPool_any (v : PV) (p : PoolM) (k base : Nat) (w : World) (h : PoolOwn w base v p) (hs : PoolShort p) (hk0 : 1 ≤ k) (hk1 : k ≤ 50000000) :
    Calls Tryz.prog 14 #[v.val p, .int .i64 (k : Int)] w fun e w' => e = .returned (.int .i64 ((pend k p : Nat) : Int)) ∧ PoolHd k w' base v p ∧ Turned (PTurns v) w w' := by
  have HS := Lib.hid hs
  have HK := Lib.hid (show dend k p.disk ≤ 70000000 ∧ 1 ≤ dend k p.disk from by have := hs.d.n0; have := hs.d.n1; have := hs.d.nl; unfold dend; omega)
  obtain ⟨b1, hsz, hB⟩ := box1 w #[v.v0, v.v1, v.vl, .int .i64 p.core.txg, v.vs, v.vd, v.vp, .bool p.core.dirty, v.vi, .int .i64 p.core.logn, .bool p.up] 46
  have X1 := Lib.hid (show Box _ _ (v.cells p) from b1)
  have HO := Lib.hid (h.below hB)
  have HT := Lib.hid (turned_of_below (S := PTurns v) hB)
  have HN := Lib.hid (show ∀ b, PTurns v b → b ≠ w.heap.size from fun b e => by have := (h.turns e).2; omega)
  clear b1 hB hsz h hs
  go_enter Tryz.func14, Tryz.ntmps14
  go_upto_region 1 with fail
  obtain ⟨W, HWE⟩ : ∃ W, w.alloc (.cells #[v.v0, v.v1, v.vl, .int .i64 p.core.txg, v.vs, v.vd, v.vp, .bool p.core.dirty, v.vi, .int .i64 p.core.logn, .bool p.up] 46) = W := ⟨_, rfl⟩
  rw [HWE] at X1 HO HT ⊢
  clear HWE
  go_wp2_with (refine wpList_load_cs rfl _ rfl aggDiskI rfl v.dl rfl (PV.diskAt X1.out) ?_)
  refine (markDisk_any _ _ _ p.disk k base _ HO.out.d HS.out.d hk0 (by omega)).mono ?_
  rintro e w1 ⟨rfl, hod, ht⟩
  have Y1 := Lib.hid (X1.out.kept (ht.block _ X1.out.lt (fun e => HN.out _ (Or.inl e) rfl)))
  have OD := Lib.hid hod
  have OC := Lib.hid (HO.out.c.keptT (w' := w1) (fun b e => ht.block b (HO.out.c.turns e).2 (fun e' => HO.out.x b e' e)))
  have HT1 := Lib.hid (HT.out.trans (ht.mono (fun b _ e => Or.inl e)))
  have HX := Lib.hid HO.out.x
  clear hod ht X1 HT HO
  obtain ⟨kk, HKK⟩ : ∃ kk, Hid (dend k p.disk = kk) := ⟨_, Lib.hid rfl⟩
  rw [show k + p.disk.s0.length + p.disk.s1.length + 3 * p.disk.late.length = kk from HKK.out]
  have hkk : kk ≤ 70000000 ∧ 1 ≤ kk := by have := HK.out; rw [HKK.out] at this; exact this
  go_wp2_with (refine wpList_load_cs rfl _ rfl aggCore rfl (v.kl p.core) rfl (PV.coreAt Y1.out) ?_)
  refine (markCoreH_any _ _ _ _ p.core kk base _ OC.out HS.out.c hkk.2 hkk.1).mono ?_
  rintro e w2 ⟨rfl, hoc, ht⟩
  have OC2 := Lib.hid hoc
  have OD2 := Lib.hid (OD.out.keptT (w' := w2) (fun b e => ht.block b (OD.out.turns e).2 (fun e' => HX.out b e e')))
  have HT2 := Lib.hid (HT1.out.trans (ht.mono (fun b _ e => Or.inr e)))
  clear hoc ht Y1 HT1 OD OC HX
  go_wp2
  go_ret
  refine ⟨ret_int (by unfold pend; rw [HKK.out]), ⟨OD2.out, ?_⟩, HT2.out⟩
  rw [HKK.out]; exact OC2.out

set_option maxHeartbeats 1000000 in
theorem heldPool_any (v : PV) (p : PoolM) (k base : Nat) (w : World) (h : PoolHd k w base v p) (hs : PoolShort p) (hk0 : 1 ≤ k) (hk1 : k ≤ 50000000) :
    Calls Tryz.prog 15 #[v.val p, .int .i64 (k : Int)] w (HeldPost ((pend k p : Nat) : Int) w) := by
  have HS := Lib.hid hs
  have HK := Lib.hid (show dend k p.disk ≤ 70000000 ∧ 1 ≤ dend k p.disk from by have := hs.d.n0; have := hs.d.n1; have := hs.d.nl; unfold dend; omega)
  obtain ⟨b1, hsz, hB⟩ := box1 w #[v.v0, v.v1, v.vl, .int .i64 p.core.txg, v.vs, v.vd, v.vp, .bool p.core.dirty, v.vi, .int .i64 p.core.logn, .bool p.up] 46
  have X1 := Lib.hid (show Box _ _ (v.cells p) from b1)
  have HO := Lib.hid (h.below hB)
  have B0 := Lib.hid hB
  clear b1 hB hsz h hs
  go_enter Tryz.func15, Tryz.ntmps15
  go_upto_region 1 with fail
  obtain ⟨W, HWE⟩ : ∃ W, w.alloc (.cells #[v.v0, v.v1, v.vl, .int .i64 p.core.txg, v.vs, v.vd, v.vp, .bool p.core.dirty, v.vi, .int .i64 p.core.logn, .bool p.up] 46) = W := ⟨_, rfl⟩
  rw [HWE] at X1 HO B0 ⊢
  clear HWE
  go_wp2_with (refine wpList_load_cs rfl _ rfl aggDiskI rfl v.dl rfl (PV.diskAt X1.out) ?_)
  refine (heldDisk_any _ _ _ p.disk.s0.length p.disk.s1.length p.disk.late.length k _ HO.out.d.reads HS.out.d.n0 HS.out.d.n1 HS.out.d.nl hk0 (by omega)).mono ?_
  rintro e w1 ⟨rfl, hb⟩
  have Y1 := Lib.hid (X1.out.below hb X1.out.lt)
  have HO1 := Lib.hid (HO.out.below hb)
  have B1 := Lib.hid (B0.out.trans (hb.mono B0.out.size))
  clear hb X1 HO B0
  obtain ⟨kk, HKK⟩ : ∃ kk, Hid (dend k p.disk = kk) := ⟨_, Lib.hid rfl⟩
  rw [show k + p.disk.s0.length + p.disk.s1.length + 3 * p.disk.late.length = kk from HKK.out]
  have hkk : kk ≤ 70000000 ∧ 1 ≤ kk := by have := HK.out; rw [HKK.out] at this; exact this
  have OC := Lib.hid (show CoreHd kk w1 base v.vs v.vd v.vp v.vi _ _ _ _ from HKK.out ▸ HO1.out.c)
  have hkn : ¬ (kk : Int) < 0 := by omega
  clear HO1
  go_wp2_with (refine wpList_load_cs rfl _ rfl aggCore rfl (v.kl p.core) rfl (PV.coreAt Y1.out) ?_)
  refine (heldCore_any _ _ _ _ p.core kk base _ OC.out HS.out.c hkk.2 hkk.1).mono ?_
  rintro e w2 ⟨rfl, hb⟩
  have B2 := Lib.hid (B1.out.trans (hb.mono B1.out.size))
  clear hb Y1 OC B1
  have HPE := Lib.hid (show pend k p = cend kk p.core.sets.length p.core.ddt.length p.core.parts.length p.core.safe.length from by unfold pend; rw [HKK.out])
  generalize cend kk p.core.sets.length p.core.ddt.length p.core.parts.length p.core.safe.length = m at HPE ⊢
  have hm : ¬ (m : Int) < 0 := by omega
  go_wp2
  go_ret
  exact ⟨ret_int (by rw [HPE.out]), B2.out⟩
end Go.Proofs.YtobjgdnmlibofaaGreat
