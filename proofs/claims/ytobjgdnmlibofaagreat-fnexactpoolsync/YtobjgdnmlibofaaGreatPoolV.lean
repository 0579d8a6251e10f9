/-
  Stores as data: what they read as, which memory of them belongs to a call; the laws' helpers that make, compare and size them.
-/
import Derived.Test.YtobjgdnmlibofaaGreatCoreO
import Derived.Test.YtobjgdnmlibofaaGreatKBox
import Derived.Test.YtobjgdnmlibofaaGreatDiskLaw
import Derived.Test.YtobjgdnmlibofaaGreatLDiskOk
import Derived.Test.YtobjgdnmlibofaaGreatPut
set_option maxRecDepth 100000
namespace Go.Proofs.YtobjgdnmlibofaaGreat
open Go.ChangeShapes Go.WideShapes Go.ChangeAt Go.RowKit Go.Proofs.Palim

structure PoolM where
  disk : DiskM
  core : CoreM
  up : Bool
/-- The seven slices of a store. -/
structure PV where
  (v0 v1 vl vs vd vp vi : Value)
abbrev PV.dl (v : PV) : List Value := [v.v0, v.v1, v.vl]
abbrev PV.kl (v : PV) (c : CoreM) : List Value := [.int .i64 c.txg, v.vs, v.vd, v.vp, .bool c.dirty, v.vi, .int .i64 c.logn]
abbrev PV.cells (v : PV) (p : PoolM) : List Value := [v.v0, v.v1, v.vl, .int .i64 p.core.txg, v.vs, v.vd, v.vp, .bool p.core.dirty, v.vi, .int .i64 p.core.logn, .bool p.up]
abbrev PV.val (v : PV) (p : PoolM) : Value := .agg #[v.v0, v.v1, v.vl, .int .i64 p.core.txg, v.vs, v.vd, v.vp, .bool p.core.dirty, v.vi, .int .i64 p.core.logn, .bool p.up]
structure PoolR (w : World) (v : PV) (p : PoolM) : Prop where
  d : DiskR w v.v0 v.v1 v.vl p.disk
  c : CoreR w v.vs v.vd v.vp v.vi p.core
theorem PoolR.below {w w' : World} {v : PV} {p : PoolM} (h : PoolR w v p) (hb : Below w.heap.size w w') : PoolR w' v p := ⟨h.d.below hb, h.c.below hb⟩
theorem diskR_drew {w : World} {v0 v1 vl : Value} {d : DiskM} (h : DiskR w v0 v1 vl d) : DiskR w.drew v0 v1 vl d := ⟨h.r0, h.r1, h.rl, h.l0, h.l1, h.ll⟩
theorem PoolR.drew {w : World} {v : PV} {p : PoolM} (h : PoolR w v p) : PoolR w.drew v p := ⟨diskR_drew h.d, h.c.drew⟩
structure PoolShort (p : PoolM) : Prop where
  d : DiskShort p.disk
  c : CoreShort p.core
/-- The blocks of a store's lists. -/
def PTurns (v : PV) (b : Nat) : Prop := DTurns v.v0 v.v1 v.vl b ∨ CTurns v.vs v.vd v.vp v.vi b
structure PoolOwn (w : World) (base : Nat) (v : PV) (p : PoolM) : Prop where
  d : DiskOwn w base v.v0 v.v1 v.vl p.disk
  c : CoreOwn w base v.vs v.vd v.vp v.vi p.core
  x : ∀ b, DTurns v.v0 v.v1 v.vl b → CTurns v.vs v.vd v.vp v.vi b → False
theorem PoolOwn.reads {w : World} {base : Nat} {v : PV} {p : PoolM} (h : PoolOwn w base v p) : PoolR w v p := ⟨h.d.reads, h.c.reads⟩
theorem CoreOwn.kept {w w' : World} {base : Nat} {vs vd vp vi : Value} {c : CoreM} (h : CoreOwn w base vs vd vp vi c) (hb : ∀ b, b < w.heap.size → base ≤ b → w'.heap[b]? = w.heap[b]?) : CoreOwn w' base vs vd vp vi c :=
  ⟨own_kept h.s fun b e => hb b (h.s.lt b e).2 (h.s.lt b e).1, own_kept h.d fun b e => hb b (h.d.lt b e).2 (h.d.lt b e).1, own_kept h.p fun b e => hb b (h.p.lt b e).2 (h.p.lt b e).1, own_kept h.i fun b e => hb b (h.i.lt b e).2 (h.i.lt b e).1, h.sd, h.sp, h.si, h.dp, h.di, h.pi⟩
theorem PoolOwn.kept {w w' : World} {base : Nat} {v : PV} {p : PoolM} (h : PoolOwn w base v p) (hb : ∀ b, b < w.heap.size → base ≤ b → w'.heap[b]? = w.heap[b]?) : PoolOwn w' base v p := ⟨h.d.kept hb, h.c.kept hb, h.x⟩
theorem PoolOwn.below {w w' : World} {base : Nat} {v : PV} {p : PoolM} (h : PoolOwn w base v p) (hb : Below w.heap.size w w') : PoolOwn w' base v p := h.kept fun b hl _ => hb.block b hl
theorem PoolOwn.base {w : World} {base base' : Nat} {v : PV} {p : PoolM} (h : PoolOwn w base v p) (hb : base' ≤ base) : PoolOwn w base' v p := ⟨h.d.base hb, h.c.base hb, h.x⟩
theorem PoolOwn.drew {w : World} {base : Nat} {v : PV} {p : PoolM} (h : PoolOwn w base v p) : PoolOwn w.drew base v p := h.kept fun _ _ _ => rfl
theorem DiskOwn.put {w w' : World} {x base : Nat} {v0 v1 vl : Value} {d : DiskM} (h : DiskOwn w base v0 v1 vl d) (hp : PutAt x w w') (hx : x < base) : DiskOwn w' base v0 v1 vl d := h.kept fun b _ hb => hp.block b (by omega)
theorem CoreOwn.put {w w' : World} {x base : Nat} {vs vd vp vi : Value} {c : CoreM} (h : CoreOwn w base vs vd vp vi c) (hp : PutAt x w w') (hx : x < base) : CoreOwn w' base vs vd vp vi c := h.kept fun b _ hb => hp.block b (by omega)
theorem PoolOwn.put {w w' : World} {x base : Nat} {v : PV} {p : PoolM} (h : PoolOwn w base v p) (hp : PutAt x w w') (hx : x < base) : PoolOwn w' base v p := h.kept fun b _ hb => hp.block b (by omega)
theorem DiskOwn.turns {w : World} {base : Nat} {v0 v1 vl : Value} {d : DiskM} (h : DiskOwn w base v0 v1 vl d) {b : Nat} (hb : DTurns v0 v1 vl b) : base ≤ b ∧ b < w.heap.size := by
  rcases hb with e | e | e
  · exact h.o0.lt b e
  · exact h.o1.lt b e
  · exact h.ol.lt b e
theorem CoreOwn.turns {w : World} {base : Nat} {vs vd vp vi : Value} {c : CoreM} (h : CoreOwn w base vs vd vp vi c) {b : Nat} (hb : CTurns vs vd vp vi b) : base ≤ b ∧ b < w.heap.size := by
  rcases hb with e | e | e | e
  · exact h.s.lt b e
  · exact h.d.lt b e
  · exact h.p.lt b e
  · exact h.i.lt b e
theorem PoolOwn.turns {w : World} {base : Nat} {v : PV} {p : PoolM} (h : PoolOwn w base v p) {b : Nat} (hb : PTurns v b) : base ≤ b ∧ b < w.heap.size := hb.elim (fun e => h.d.turns e) (fun e => h.c.turns e)
def NewPool (w : World) (p : PoolM) (e : Ending) (w' : World) : Prop :=
  ∃ v : PV, e = .returned (v.val p) ∧ PoolOwn w' w.heap.size v p ∧ Below w.heap.size w w'
theorem aggPool : Agg Tryz.prog 46 11 := ⟨Tryz.isAgg46, Tryz.sizeOf46⟩
theorem aggPoolL : Agg Tryz.prog 34 11 := ⟨Tryz.isAgg34, Tryz.sizeOf34⟩
theorem aggDiskI : Agg Tryz.prog 39 3 := ⟨Tryz.isAgg39, Tryz.sizeOf39⟩
theorem aggDiskL : Agg Tryz.prog 26 3 := ⟨Tryz.isAgg26, Tryz.sizeOf26⟩
/-- A store in a box. -/
structure PBox (w : World) (x : Nat) (v : PV) (p : PoolM) : Prop where
  box : Box w x (v.cells p)
  reads : PoolR w v p
theorem PBox.below {w w' : World} {x : Nat} {v : PV} {p : PoolM} (h : PBox w x v p) (hb : Below w.heap.size w w') : PBox w' x v p := ⟨h.box.below hb h.box.lt, h.reads.below hb⟩
theorem PBox.drew {w : World} {x : Nat} {v : PV} {p : PoolM} (h : PBox w x v p) : PBox w.drew x v p := ⟨h.box, h.reads.drew⟩
theorem pbox_new {w : World} {v : PV} {p : PoolM} (h : PoolR w v p) (e : Nat) : PBox (w.alloc (.cells #[v.v0, v.v1, v.vl, .int .i64 p.core.txg, v.vs, v.vd, v.vp, .bool p.core.dirty, v.vi, .int .i64 p.core.logn, .bool p.up] e)) w.heap.size v p :=
  ⟨box_new _ _ _, h.below (Below.new1 _)⟩
theorem PV.diskAt {w : World} {x : Nat} {v : PV} {p : PoolM} (h : Box w x (v.cells p)) : ∀ j u, v.dl[j]? = some u → w.cell? ⟨x, 0 + j, none⟩ = some u := h.midAt [] v.dl (v.kl p.core ++ [.bool p.up]) 0 rfl rfl
theorem PV.coreAt {w : World} {x : Nat} {v : PV} {p : PoolM} (h : Box w x (v.cells p)) : ∀ j u, (v.kl p.core)[j]? = some u → w.cell? ⟨x, 3 + j, none⟩ = some u := h.midAt v.dl (v.kl p.core) [.bool p.up] 3 rfl rfl

set_option maxHeartbeats 2000000 in
theorem toPool_any (v : PV) (p : PoolM) (w : World) (h : PoolR w v p) (hs : PoolShort p) :
    Calls Tryz.prog 9 #[v.val p] w (NewPool w p) := by
  obtain ⟨b1, b2, b3, hsz, hB⟩ := box3 w #[v.v0, v.v1, v.vl, .int .i64 p.core.txg, v.vs, v.vd, v.vp, .bool p.core.dirty, v.vi, .int .i64 p.core.logn, .bool p.up] #[.slice none 0 0, .slice none 0 0, .slice none 0 0, .int .i64 0, .slice none 0 0, .slice none 0 0, .slice none 0 0, .bool false, .slice none 0 0, .int .i64 0, .bool false] #[.slice none 0 0, .slice none 0 0, .slice none 0 0, .int .i64 0, .slice none 0 0, .slice none 0 0, .slice none 0 0, .bool false, .slice none 0 0, .int .i64 0, .bool false] 34 46 46
  have X1 := Lib.hid (show Box _ _ (v.cells p) from b1)
  have X2 := Lib.hid b2
  have X3 := Lib.hid b3
  have B0 := Lib.hid hB
  have HR := Lib.hid h
  have HS := Lib.hid hs
  clear b1 b2 b3 hB hsz h hs
  go_enter Tryz.func9, Tryz.ntmps9
  go_upto_region 2 with fail
  obtain ⟨W, HWE⟩ : ∃ W, ((w.alloc (.cells #[v.v0, v.v1, v.vl, .int .i64 p.core.txg, v.vs, v.vd, v.vp, .bool p.core.dirty, v.vi, .int .i64 p.core.logn, .bool p.up] 34)).alloc (.cells #[.slice none 0 0, .slice none 0 0, .slice none 0 0, .int .i64 0, .slice none 0 0, .slice none 0 0, .slice none 0 0, .bool false, .slice none 0 0, .int .i64 0, .bool false] 46)).alloc (.cells #[.slice none 0 0, .slice none 0 0, .slice none 0 0, .int .i64 0, .slice none 0 0, .slice none 0 0, .slice none 0 0, .bool false, .slice none 0 0, .int .i64 0, .bool false] 46) = W := ⟨_, rfl⟩
  rw [HWE] at X1 X2 X3 B0 ⊢
  clear HWE
  have hl3 : w.heap.size + 1 + 1 < W.heap.size := X3.out.lt
  go_wp2_with (refine wpList_load_cs rfl _ rfl aggDiskL rfl v.dl rfl (PV.diskAt X1.out) ?_)
  refine (toDisk_any _ _ _ p.disk _ (HR.out.d.below B0.out) HS.out.d).mono ?_
  rintro e w1 ⟨u0, u1, ul, rfl, hown, hb⟩
  obtain ⟨A0, c0, A1, c1, Al, cl, rfl, rfl, rfl⟩ := hown.forms
  have OD := Lib.hid (hown.base (Nat.succ_le_of_lt hl3))
  have OL := Lib.hid (show ∀ b, DTurns (.slice A0 p.disk.s0.length c0) (.slice A1 p.disk.s1.length c1) (.slice Al p.disk.late.length cl) b → b < w1.heap.size from fun b e => (hown.turns e).2)
  have Y1 := Lib.hid (X1.out.below hb X1.out.lt)
  have Y2 := Lib.hid (X2.out.below hb X2.out.lt)
  have Y3 := Lib.hid (X3.out.below hb X3.out.lt)
  have B1 := Lib.hid (B0.out.trans (hb.mono B0.out.size))
  have hl4 : w.heap.size + 1 + 1 < w1.heap.size := Nat.lt_of_lt_of_le hl3 hb.size
  clear hb hown X1 X2 X3 B0 hl3
  go_wp2_with (refine wpList_put_mid rfl _ _ rfl rfl aggDiskI rfl [.slice A0 p.disk.s0.length c0, .slice A1 p.disk.s1.length c1, .slice Al p.disk.late.length cl] rfl rfl (by simp [Value.oneCell']) Y3.out [] [.slice none 0 0, .slice none 0 0, .slice none 0 0] [.int .i64 0, .slice none 0 0, .slice none 0 0, .slice none 0 0, .bool false, .slice none 0 0, .int .i64 0, .bool false] [.slice A0 p.disk.s0.length c0, .slice A1 p.disk.s1.length c1, .slice Al p.disk.late.length cl, .int .i64 0, .slice none 0 0, .slice none 0 0, .slice none 0 0, .bool false, .slice none 0 0, .int .i64 0, .bool false] rfl rfl rfl rfl ?_)
  intro W1 P1 Z3
  go_upto_region 3 with fail
  have X1 := Lib.hid (show Box W1 _ (v.cells p) from P1.box (by omega) Y1.out)
  have X2 := Lib.hid (P1.box (by omega) Y2.out)
  have OD1 := Lib.hid (OD.out.kept (w' := W1) (fun b _ hb => P1.block b (by omega)))
  have B2 := Lib.hid (P1.below B1.out (by omega))
  have hl5 : w.heap.size + 1 + 1 < W1.heap.size := by rw [P1.size]; exact hl4
  have OL1 := Lib.hid (show ∀ b, DTurns (.slice A0 p.disk.s0.length c0) (.slice A1 p.disk.s1.length c1) (.slice Al p.disk.late.length cl) b → b < W1.heap.size from fun b e => by rw [P1.size]; exact OL.out b e)
  have X3 := Lib.hid Z3
  clear Z3 P1 Y1 Y2 Y3 OD B1 OL hl4
  go_wp2_with (refine wpList_load_cs rfl _ rfl aggCoreL rfl (v.kl p.core) rfl (PV.coreAt X1.out) ?_)
  refine (toCoreO_any _ _ _ _ p.core _ (HR.out.c.below B2.out) HS.out.c).mono ?_
  rintro e w2 ⟨us, ud, up_, ui, rfl, hown, hb⟩
  obtain ⟨E0, d0, E1, d1, E2, d2, E3, d3, rfl, rfl, rfl, rfl⟩ := hown.reads.forms
  have OX := Lib.hid (show ∀ b, DTurns (.slice A0 p.disk.s0.length c0) (.slice A1 p.disk.s1.length c1) (.slice Al p.disk.late.length cl) b → CTurns (.slice E0 p.core.sets.length d0) (.slice E1 p.core.ddt.length d1) (.slice E2 p.core.parts.length d2) (.slice E3 p.core.safe.length d3) b → False from fun b e1 e2 => by
    have := OL1.out b e1; have := (hown.turns e2).1; omega)
  have OC := Lib.hid (hown.base (Nat.succ_le_of_lt hl5))
  have OD := Lib.hid (OD1.out.below hb)
  have Y1 := Lib.hid (X1.out.below hb X1.out.lt)
  have Y2 := Lib.hid (X2.out.below hb X2.out.lt)
  have Y3 := Lib.hid (X3.out.below hb X3.out.lt)
  have B1 := Lib.hid (B2.out.trans (hb.mono B2.out.size))
  clear hb hown X1 X2 X3 B2 OD1 OL1 hl5
  go_wp2_with (refine wpList_put_mid rfl _ _ rfl rfl aggCore rfl [.int .i64 p.core.txg, .slice E0 p.core.sets.length d0, .slice E1 p.core.ddt.length d1, .slice E2 p.core.parts.length d2, .bool p.core.dirty, .slice E3 p.core.safe.length d3, .int .i64 p.core.logn] rfl rfl (by simp [Value.oneCell']) Y3.out [.slice A0 p.disk.s0.length c0, .slice A1 p.disk.s1.length c1, .slice Al p.disk.late.length cl] [.int .i64 0, .slice none 0 0, .slice none 0 0, .slice none 0 0, .bool false, .slice none 0 0, .int .i64 0] [.bool false] [.slice A0 p.disk.s0.length c0, .slice A1 p.disk.s1.length c1, .slice Al p.disk.late.length cl, .int .i64 p.core.txg, .slice E0 p.core.sets.length d0, .slice E1 p.core.ddt.length d1, .slice E2 p.core.parts.length d2, .bool p.core.dirty, .slice E3 p.core.safe.length d3, .int .i64 p.core.logn, .bool false] rfl rfl rfl rfl ?_)
  intro W2 P1 Z3
  go_upto_region 4 with fail
  have X1 := Lib.hid (show Box W2 _ (v.cells p) from P1.box (by omega) Y1.out)
  have X2 := Lib.hid (P1.box (by omega) Y2.out)
  have OD1 := Lib.hid (OD.out.kept (w' := W2) (fun b _ hb => P1.block b (by omega)))
  have OC1 := Lib.hid (OC.out.kept (w' := W2) (fun b _ hb => P1.block b (by omega)))
  have B2 := Lib.hid (P1.below B1.out (by omega))
  have X3 := Lib.hid Z3
  clear Z3 P1 Y1 Y2 Y3 OD OC B1
  have n10 := X1.out.cell 10 rfl
  have c10 := X3.out.cell 10 rfl
  have f10 := X3.out.open_ 10
  go_upto_region 5 with fail
  have P1 := putAt_setCell W2 (w.heap.size + 1 + 1) 10 (.bool p.up)
  have Y2 := Lib.hid (P1.box (by omega) X2.out)
  have Y3 := Lib.hid (show Box (W2.setCell ⟨w.heap.size + 1 + 1, 10, none⟩ (.bool p.up)) _ [.slice A0 p.disk.s0.length c0, .slice A1 p.disk.s1.length c1, .slice Al p.disk.late.length cl, .int .i64 p.core.txg, .slice E0 p.core.sets.length d0, .slice E1 p.core.ddt.length d1, .slice E2 p.core.parts.length d2, .bool p.core.dirty, .slice E3 p.core.safe.length d3, .int .i64 p.core.logn, .bool p.up] from X3.out.set 10 (.bool p.up))
  have OD := Lib.hid (OD1.out.kept (w' := W2.setCell ⟨w.heap.size + 1 + 1, 10, none⟩ (.bool p.up)) (fun b _ hb => P1.block b (by omega)))
  have OC := Lib.hid (OC1.out.kept (w' := W2.setCell ⟨w.heap.size + 1 + 1, 10, none⟩ (.bool p.up)) (fun b _ hb => P1.block b (by omega)))
  have B1 := Lib.hid (P1.below B2.out (by omega))
  clear P1 X1 X2 X3 OD1 OC1 B2 n10 c10 f10
  generalize W2.setCell ⟨w.heap.size + 1 + 1, 10, none⟩ (.bool p.up) = W3 at Y2 Y3 OD OC B1 ⊢
  go_wp2_with (first
    | (refine wpList_load_box rfl _ rfl aggPool rfl [.slice A0 p.disk.s0.length c0, .slice A1 p.disk.s1.length c1, .slice Al p.disk.late.length cl, .int .i64 p.core.txg, .slice E0 p.core.sets.length d0, .slice E1 p.core.ddt.length d1, .slice E2 p.core.parts.length d2, .bool p.core.dirty, .slice E3 p.core.safe.length d3, .int .i64 p.core.logn, .bool p.up] rfl Y3.out ?_)
    | (refine wpList_put_mid rfl _ _ rfl rfl aggPool rfl [.slice A0 p.disk.s0.length c0, .slice A1 p.disk.s1.length c1, .slice Al p.disk.late.length cl, .int .i64 p.core.txg, .slice E0 p.core.sets.length d0, .slice E1 p.core.ddt.length d1, .slice E2 p.core.parts.length d2, .bool p.core.dirty, .slice E3 p.core.safe.length d3, .int .i64 p.core.logn, .bool p.up] rfl rfl (by simp [Value.oneCell']) Y2.out [] [.slice none 0 0, .slice none 0 0, .slice none 0 0, .int .i64 0, .slice none 0 0, .slice none 0 0, .slice none 0 0, .bool false, .slice none 0 0, .int .i64 0, .bool false] [] [.slice A0 p.disk.s0.length c0, .slice A1 p.disk.s1.length c1, .slice Al p.disk.late.length cl, .int .i64 p.core.txg, .slice E0 p.core.sets.length d0, .slice E1 p.core.ddt.length d1, .slice E2 p.core.parts.length d2, .bool p.core.dirty, .slice E3 p.core.safe.length d3, .int .i64 p.core.logn, .bool p.up] rfl rfl rfl rfl ?_))
  intro W4 P1 Z2
  go_wp2
  refine bodyPost_ret (results_box rfl _ (w.heap.size + 1) [.slice A0 p.disk.s0.length c0, .slice A1 p.disk.s1.length c1, .slice Al p.disk.late.length cl, .int .i64 p.core.txg, .slice E0 p.core.sets.length d0, .slice E1 p.core.ddt.length d1, .slice E2 p.core.parts.length d2, .bool p.core.dirty, .slice E3 p.core.safe.length d3, .int .i64 p.core.logn, .bool p.up] aggPool rfl rfl Z2) rfl ⟨⟨.slice A0 p.disk.s0.length c0, .slice A1 p.disk.s1.length c1, .slice Al p.disk.late.length cl, .slice E0 p.core.sets.length d0, .slice E1 p.core.ddt.length d1, .slice E2 p.core.parts.length d2, .slice E3 p.core.safe.length d3⟩, rfl, ⟨?_, ?_, OX.out⟩, P1.below B1.out (by omega)⟩
  · exact (OD.out.kept (fun b _ hb => P1.block b (by omega))).base (by omega)
  · exact (OC.out.kept (fun b _ hb => P1.block b (by omega))).base (by omega)

set_option maxHeartbeats 1000000 in
theorem eqPool_same (v u : PV) (p : PoolM) (w : World) (h : PoolR w v p) (h' : PoolR w u p) (hs : PoolShort p) :
    Calls Tryz.prog 11 #[v.val p, u.val p] w fun e w' => e = .returned (.bool true) ∧ Below w.heap.size w w' := by
  have hnot : ∀ (x : Bool) (w : World), (Op.unary .not (.bool x)).run Tryz.prog w = .ok (.bool (!x)) w := fun _ _ => rfl
  obtain ⟨b1, b2, hsz, hB⟩ := box2 w #[v.v0, v.v1, v.vl, .int .i64 p.core.txg, v.vs, v.vd, v.vp, .bool p.core.dirty, v.vi, .int .i64 p.core.logn, .bool p.up] #[u.v0, u.v1, u.vl, .int .i64 p.core.txg, u.vs, u.vd, u.vp, .bool p.core.dirty, u.vi, .int .i64 p.core.logn, .bool p.up] 46 46
  have X1 := Lib.hid (show PBox _ _ v p from ⟨b1, h.below hB⟩)
  have X2 := Lib.hid (show PBox _ _ u p from ⟨b2, h'.below hB⟩)
  have B0 := Lib.hid hB
  have HS := Lib.hid hs
  clear b1 b2 hB hsz h h' hs
  go_enter Tryz.func11, Tryz.ntmps11
  go_upto_region 1 with fail
  obtain ⟨W, HWE⟩ : ∃ W, (w.alloc (.cells #[v.v0, v.v1, v.vl, .int .i64 p.core.txg, v.vs, v.vd, v.vp, .bool p.core.dirty, v.vi, .int .i64 p.core.logn, .bool p.up] 46)).alloc (.cells #[u.v0, u.v1, u.vl, .int .i64 p.core.txg, u.vs, u.vd, u.vp, .bool p.core.dirty, u.vi, .int .i64 p.core.logn, .bool p.up] 46) = W := ⟨_, rfl⟩
  rw [HWE] at X1 X2 B0 ⊢
  clear HWE
  go_wp2_with (first
    | (refine wpList_load_cs rfl _ rfl aggDiskI rfl v.dl rfl (PV.diskAt X1.out.box) ?_)
    | (refine wpList_load_cs rfl _ rfl aggDiskI rfl u.dl rfl (PV.diskAt X2.out.box) ?_))
  refine (eqDisk_same _ _ _ _ _ _ p.disk _ X1.out.reads.d X2.out.reads.d HS.out.d).mono ?_
  rintro e w1 ⟨rfl, hb⟩
  have Y1 := Lib.hid (X1.out.below hb)
  have Y2 := Lib.hid (X2.out.below hb)
  have B1 := Lib.hid (B0.out.trans (hb.mono B0.out.size))
  clear X1 X2 B0 hb
  go_wp2_with (first
    | (refine wpList_load_cs rfl _ rfl aggCore rfl (v.kl p.core) rfl (PV.coreAt Y1.out.box) ?_)
    | (refine wpList_load_cs rfl _ rfl aggCore rfl (u.kl p.core) rfl (PV.coreAt Y2.out.box) ?_))
  refine (eqCore_same _ _ _ _ _ _ _ _ p.core _ Y1.out.reads.c Y2.out.reads.c HS.out.c).mono ?_
  rintro e w2 ⟨rfl, hb⟩
  have X1 := Lib.hid (Y1.out.below hb)
  have X2 := Lib.hid (Y2.out.below hb)
  have B0 := Lib.hid (B1.out.trans (hb.mono B1.out.size))
  clear Y1 Y2 B1 hb
  have n10 := X1.out.box.cell 10 rfl
  have m10 := X2.out.box.cell 10 rfl
  go_wp2
  go_ret
  exact ⟨rfl, B0.out⟩

set_option maxHeartbeats 1000000 in
theorem szPool_any (v : PV) (p : PoolM) (left : Int) (w : World) (h : PoolR w v p) (hz0 : ∀ s ∈ p.disk.s0, s.size ≤ maxLen) (hz1 : ∀ s ∈ p.disk.s1, s.size ≤ maxLen) (hzl : ∀ x ∈ p.disk.late, x.text.size ≤ maxLen) (hz : ∀ x ∈ p.core.sets, x.name.size ≤ maxLen ∧ x.frm.size ≤ maxLen) (h0 : 0 ≤ left) (h1 : left ≤ 1048576) :
    Calls Tryz.prog 7 #[v.val p, .int .i64 left] w fun e w' => (∃ r : Int, e = .returned (.int .i64 r) ∧ (r = -1 ∨ 0 ≤ r ∧ r ≤ left ∧ PoolShort p)) ∧ Below w.heap.size w w' := by
  obtain ⟨b1, hsz, hB⟩ := box1 w #[v.v0, v.v1, v.vl, .int .i64 p.core.txg, v.vs, v.vd, v.vp, .bool p.core.dirty, v.vi, .int .i64 p.core.logn, .bool p.up] 34
  have X1 := Lib.hid (show PBox _ _ v p from ⟨b1, h.below hB⟩)
  have B0 := Lib.hid hB
  have H0 := Lib.hid h0
  have H1 := Lib.hid h1
  have HZ0 := Lib.hid hz0
  have HZ1 := Lib.hid hz1
  have HZL := Lib.hid hzl
  have HZ := Lib.hid hz
  clear b1 hB hsz h h0 h1 hz0 hz1 hzl hz
  go_enter Tryz.func7, Tryz.ntmps7
  go_upto_region 1 with fail
  obtain ⟨W, HWE⟩ : ∃ W, w.alloc (.cells #[v.v0, v.v1, v.vl, .int .i64 p.core.txg, v.vs, v.vd, v.vp, .bool p.core.dirty, v.vi, .int .i64 p.core.logn, .bool p.up] 34) = W := ⟨_, rfl⟩
  rw [HWE] at X1 B0 ⊢
  clear HWE
  go_wp2_with (refine wpList_load_cs rfl _ rfl aggDiskL rfl v.dl rfl (PV.diskAt X1.out.box) ?_)
  refine (szDisk_any _ _ _ p.disk left _ X1.out.reads.d HZ0.out HZ1.out HZL.out H0.out H1.out).mono ?_
  rintro e w1 ⟨⟨r, rfl, hr⟩, hb⟩
  have Y1 := Lib.hid (X1.out.below hb)
  have B1 := Lib.hid (B0.out.trans (hb.mono B0.out.size))
  clear X1 B0 hb
  rcases hr with rfl | ⟨hr0, hr1⟩
  · go_wp2
    go_ret
    exact ⟨⟨-1, rfl, Or.inl rfl⟩, B1.out⟩
  have HSD := Lib.hid (short_of_sz (d := p.disk) (by have := H1.out; omega))
  have hr2 : ¬ r < 0 := by omega
  have hr3 : r ≤ left := by omega
  clear hr1
  go_wp2_with (refine wpList_load_cs rfl _ rfl aggCoreL rfl (v.kl p.core) rfl (PV.coreAt Y1.out.box) ?_)
  refine (szCore_any _ _ _ _ p.core r _ Y1.out.reads.c HZ.out hr0 (Int.le_trans hr3 H1.out)).mono ?_
  rintro e w2 ⟨⟨q, rfl, hq⟩, hb⟩
  have B0 := Lib.hid (B1.out.trans (hb.mono B1.out.size))
  clear Y1 B1 hb
  rcases hq with rfl | ⟨hq0, hq1, hq2⟩
  · go_wp2
    go_ret
    exact ⟨⟨-1, rfl, Or.inl rfl⟩, B0.out⟩
  have HSC := Lib.hid hq2
  have hq3 : ¬ q < 0 := by omega
  have HQ := Lib.hid (show q ≤ left by omega)
  clear hq1 hq2 hr3
  go_wp2
  go_ret
  exact ⟨⟨q, rfl, Or.inr ⟨hq0, HQ.out, HSD.out, HSC.out⟩⟩, B0.out⟩
end Go.Proofs.YtobjgdnmlibofaaGreat
