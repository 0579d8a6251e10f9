/-
  Texts joined into one.
-/
import Derived.Test.YtojjenclcidnkaaGreatDoorBase
import Derived.Test.YtojjenclcidnkaaGreatDoorData

/-
  One box written in its middle: the world behind it, told by what it leaves alone.
-/
set_option maxRecDepth 100000
namespace Go.Proofs.Palim
open Go Go.RowKit

theorem Box.midAt {w : World} {b : Nat} {cs : List Value} (h : Box w b cs) (p m q : List Value) (off : Nat) (he : cs = p ++ m ++ q) (hp : p.length = off) : ∀ j u, m[j]? = some u → w.cell? ⟨b, off + j, none⟩ = some u := by
  subst he hp
  intro j u hu
  refine h.cell (p.length + j) ?_
  have hj : j < m.length := (List.getElem?_eq_some_iff.1 hu).1
  rw [List.append_assoc, List.getElem?_append_right (by omega), List.getElem?_append_left (by omega), show p.length + j - p.length = j by omega, hu]
theorem Box.putMid {w : World} {b : Nat} {cs cs' : List Value} (h : Box w b cs) (p old q vs : List Value) (off : Nat) (he : cs = p ++ old ++ q) (hp : p.length = off) (hl : old.length = vs.length) (he' : cs' = p ++ vs ++ q) : Box (putC w b off vs) b cs' := by
  subst he hp he'
  exact Box.putC_mid vs w b p old q h hl
/-- Nothing but block b has changed. -/
structure PutAt (b : Nat) (w w' : World) : Prop where
  os : w'.os = w.os
  tape : w'.tape = w.tape
  output : w'.output = w.output
  size : w'.heap.size = w.heap.size
  block : ∀ k, k ≠ b → w'.heap[k]? = w.heap[k]?
theorem putAt_putC (w : World) (b off : Nat) (vs : List Value) : PutAt b w (putC w b off vs) :=
  ⟨(putC_same vs w b off).1, (putC_same vs w b off).2.1, (putC_same vs w b off).2.2, putC_size vs w b off, fun k hk => putC_heap vs w b off k hk⟩
theorem putAt_setCell (w : World) (b off : Nat) (v : Value) : PutAt b w (w.setCell ⟨b, off, none⟩ v) := by
  have h := putAt_putC w b off [v]
  exact h
theorem PutAt.box {b x : Nat} {w w' : World} {vs : List Value} (h : PutAt b w w') (hx : x ≠ b) (hB : Box w x vs) : Box w' x vs := hB.kept (h.block x hx)
theorem PutAt.below {B b : Nat} {w0 w w' : World} (h : PutAt b w w') (hB : Below B w0 w) (hb : B ≤ b) : Below B w0 w' :=
  ⟨h.os.trans hB.os, h.tape.trans hB.tape, h.output.trans hB.output, by rw [h.size]; exact hB.size, fun k hk => (h.block k (by omega)).trans (hB.block k hk)⟩
theorem PutAt.turned {S : Nat → Prop} {b : Nat} {w0 w w' : World} (h : PutAt b w w') (hT : Turned S w0 w) (hb : S b) : Turned S w0 w' :=
  ⟨h.os.trans hT.os, h.tape.trans hT.tape, h.output.trans hT.output, by rw [h.size]; exact hT.size, fun k hk hn => (h.block k (fun e => hn (e ▸ hb))).trans (hT.block k hk hn)⟩

section
variable {P : Program} {w : World}
theorem wpList_take_mid {ops : Array Oper} {rest : List Oper} {o : Oper} {a : Act} {Q : Exit → Act → World → Prop} (hgd : o.guard = none) {ty : TypeId} (x : Operand) (ho : o.op = .load ty x) {k b off : Nat} (hA : Agg P ty k)
    (hx : a.eval x = .pointer (some ⟨b, off, none⟩)) {cs : List Value} (hB : Box w b cs) (p m q : List Value) (he : cs = p ++ m ++ q) (hp : p.length = off) (hk : m.length = k)
    (h : wpList P ops Q rest (a.put o.dst (.agg m.toArray)) w) : wpList P ops Q (o :: rest) a w :=
  wpList_load_cs hgd x ho hA hx m hk (hB.midAt p m q off he hp) h
theorem wp_put_mid {o : Oper} {a : Act} {K : Act → World → Prop} {Q : Exit → Act → World → Prop} {ty : TypeId} (x y : Operand) (ho : o.op = .store ty x y) (hd : o.dst = none) {k b off : Nat} (hA : Agg P ty k)
    (hx : a.eval x = .pointer (some ⟨b, off, none⟩)) (vs : List Value) (hy : a.eval y = .agg vs.toArray) (hk : vs.length = k) (h1 : ∀ v ∈ vs, v.oneCell' = true)
    {cs : List Value} (hB : Box w b cs) (p old q cs' : List Value) (he : cs = p ++ old ++ q) (hp : p.length = off) (hl : old.length = vs.length) (he' : cs' = p ++ vs ++ q)
    (h : ∀ w', PutAt b w w' → Box w' b cs' → K a w') : o.wp P a w K Q :=
  wp_store_cs x y ho hd hA hx vs hy hk h1 (hB.may off vs.length (by subst he hp; simp; omega)) (h _ (putAt_putC w b off vs) (hB.putMid p old q vs off he hp hl he'))
theorem wpList_put_mid {ops : Array Oper} {rest : List Oper} {o : Oper} {a : Act} {Q : Exit → Act → World → Prop} (hgd : o.guard = none) {ty : TypeId} (x y : Operand) (ho : o.op = .store ty x y) (hd : o.dst = none) {k b off : Nat} (hA : Agg P ty k)
    (hx : a.eval x = .pointer (some ⟨b, off, none⟩)) (vs : List Value) (hy : a.eval y = .agg vs.toArray) (hk : vs.length = k) (h1 : ∀ v ∈ vs, v.oneCell' = true)
    {cs : List Value} (hB : Box w b cs) (p old q cs' : List Value) (he : cs = p ++ old ++ q) (hp : p.length = off) (hl : old.length = vs.length) (he' : cs' = p ++ vs ++ q)
    (h : ∀ w', PutAt b w w' → Box w' b cs' → wpList P ops Q rest a w') : wpList P ops Q (o :: rest) a w :=
  wpList_plain hgd fun _ hK => wp_put_mid x y ho hd hA hx vs hy hk h1 hB p old q cs' he hp hl he' fun w' h2 h3 => hK _ _ (h w' h2 h3)
end
end Go.Proofs.Palim

/-
  Stores as data: what they read as, which memory of them belongs to a call; the laws' helpers that make, compare and size them.
-/
set_option maxRecDepth 100000
namespace Go.Proofs.YtojjenclcidnkaaGreatDoor
open Go.ChangeShapes Go.WideShapes Go.ChangeAt Go.RowKit Go.Proofs.Palim

structure PoolM where
  disk : DiskM
  core : CoreM
  up : Bool
/-- The seven slices of a store. -/
structure PV where
  (v0 v1 vl vs vd vp vi : Value)
abbrev PV.dl (v : PV) : List Value := [v.v0, v.v1, v.vl]
abbrev PV.kl (v : PV) (c : CoreM) : List Value := [.int .i64 c.txg, v.vs, v.vd, v.vp, .bool c.dirty, v.vi, .int .i64 c.logn]
abbrev PV.cells (v : PV) (p : PoolM) : List Value := [v.v0, v.v1, v.vl, .int .i64 p.core.txg, v.vs, v.vd, v.vp, .bool p.core.dirty, v.vi, .int .i64 p.core.logn, .bool p.up]
abbrev PV.val (v : PV) (p : PoolM) : Value := .agg #[v.v0, v.v1, v.vl, .int .i64 p.core.txg, v.vs, v.vd, v.vp, .bool p.core.dirty, v.vi, .int .i64 p.core.logn, .bool p.up]
structure PoolR (w : World) (v : PV) (p : PoolM) : Prop where
  d : DiskR w v.v0 v.v1 v.vl p.disk
  c : CoreR w v.vs v.vd v.vp v.vi p.core
theorem PoolR.below {w w' : World} {v : PV} {p : PoolM} (h : PoolR w v p) (hb : Below w.heap.size w w') : PoolR w' v p := ⟨h.d.below hb, h.c.below hb⟩
theorem diskR_drew {w : World} {v0 v1 vl : Value} {d : DiskM} (h : DiskR w v0 v1 vl d) : DiskR w.drew v0 v1 vl d := ⟨h.r0, h.r1, h.rl, h.l0, h.l1, h.ll⟩
theorem PoolR.drew {w : World} {v : PV} {p : PoolM} (h : PoolR w v p) : PoolR w.drew v p := ⟨diskR_drew h.d, h.c.drew⟩
structure PoolShort (p : PoolM) : Prop where
  d : DiskShort p.disk
  c : CoreShort p.core
/-- The blocks of a store's lists. -/
def PTurns (v : PV) (b : Nat) : Prop := DTurns v.v0 v.v1 v.vl b ∨ CTurns v.vs v.vd v.vp v.vi b
structure PoolOwn (w : World) (base : Nat) (v : PV) (p : PoolM) : Prop where
  d : DiskOwn w base v.v0 v.v1 v.vl p.disk
  c : CoreOwn w base v.vs v.vd v.vp v.vi p.core
  x : ∀ b, DTurns v.v0 v.v1 v.vl b → CTurns v.vs v.vd v.vp v.vi b → False
theorem PoolOwn.reads {w : World} {base : Nat} {v : PV} {p : PoolM} (h : PoolOwn w base v p) : PoolR w v p := ⟨h.d.reads, h.c.reads⟩
theorem CoreOwn.kept {w w' : World} {base : Nat} {vs vd vp vi : Value} {c : CoreM} (h : CoreOwn w base vs vd vp vi c) (hb : ∀ b, b < w.heap.size → base ≤ b → w'.heap[b]? = w.heap[b]?) : CoreOwn w' base vs vd vp vi c :=
  ⟨own_kept h.s fun b e => hb b (h.s.lt b e).2 (h.s.lt b e).1, own_kept h.d fun b e => hb b (h.d.lt b e).2 (h.d.lt b e).1, own_kept h.p fun b e => hb b (h.p.lt b e).2 (h.p.lt b e).1, own_kept h.i fun b e => hb b (h.i.lt b e).2 (h.i.lt b e).1, h.sd, h.sp, h.si, h.dp, h.di, h.pi⟩
theorem PoolOwn.kept {w w' : World} {base : Nat} {v : PV} {p : PoolM} (h : PoolOwn w base v p) (hb : ∀ b, b < w.heap.size → base ≤ b → w'.heap[b]? = w.heap[b]?) : PoolOwn w' base v p := ⟨h.d.kept hb, h.c.kept hb, h.x⟩
theorem PoolOwn.below {w w' : World} {base : Nat} {v : PV} {p : PoolM} (h : PoolOwn w base v p) (hb : Below w.heap.size w w') : PoolOwn w' base v p := h.kept fun b hl _ => hb.block b hl
theorem PoolOwn.base {w : World} {base base' : Nat} {v : PV} {p : PoolM} (h : PoolOwn w base v p) (hb : base' ≤ base) : PoolOwn w base' v p := ⟨h.d.base hb, h.c.base hb, h.x⟩
theorem PoolOwn.drew {w : World} {base : Nat} {v : PV} {p : PoolM} (h : PoolOwn w base v p) : PoolOwn w.drew base v p := h.kept fun _ _ _ => rfl
theorem DiskOwn.put {w w' : World} {x base : Nat} {v0 v1 vl : Value} {d : DiskM} (h : DiskOwn w base v0 v1 vl d) (hp : PutAt x w w') (hx : x < base) : DiskOwn w' base v0 v1 vl d := h.kept fun b _ hb => hp.block b (by omega)
theorem CoreOwn.put {w w' : World} {x base : Nat} {vs vd vp vi : Value} {c : CoreM} (h : CoreOwn w base vs vd vp vi c) (hp : PutAt x w w') (hx : x < base) : CoreOwn w' base vs vd vp vi c := h.kept fun b _ hb => hp.block b (by omega)
theorem PoolOwn.put {w w' : World} {x base : Nat} {v : PV} {p : PoolM} (h : PoolOwn w base v p) (hp : PutAt x w w') (hx : x < base) : PoolOwn w' base v p := h.kept fun b _ hb => hp.block b (by omega)
theorem DiskOwn.turns {w : World} {base : Nat} {v0 v1 vl : Value} {d : DiskM} (h : DiskOwn w base v0 v1 vl d) {b : Nat} (hb : DTurns v0 v1 vl b) : base ≤ b ∧ b < w.heap.size := by
  rcases hb with e | e | e
  · exact h.o0.lt b e
  · exact h.o1.lt b e
  · exact h.ol.lt b e
theorem CoreOwn.turns {w : World} {base : Nat} {vs vd vp vi : Value} {c : CoreM} (h : CoreOwn w base vs vd vp vi c) {b : Nat} (hb : CTurns vs vd vp vi b) : base ≤ b ∧ b < w.heap.size := by
  rcases hb with e | e | e | e
  · exact h.s.lt b e
  · exact h.d.lt b e
  · exact h.p.lt b e
  · exact h.i.lt b e
theorem PoolOwn.turns {w : World} {base : Nat} {v : PV} {p : PoolM} (h : PoolOwn w base v p) {b : Nat} (hb : PTurns v b) : base ≤ b ∧ b < w.heap.size := hb.elim (fun e => h.d.turns e) (fun e => h.c.turns e)
def NewPool (w : World) (p : PoolM) (e : Ending) (w' : World) : Prop :=
  ∃ v : PV, e = .returned (v.val p) ∧ PoolOwn w' w.heap.size v p ∧ Below w.heap.size w w'
theorem aggPool : Agg Tryz.prog 47 11 := ⟨Tryz.isAgg47, Tryz.sizeOf47⟩
theorem aggPoolL : Agg Tryz.prog 34 11 := ⟨Tryz.isAgg34, Tryz.sizeOf34⟩
theorem aggDiskI : Agg Tryz.prog 40 3 := ⟨Tryz.isAgg40, Tryz.sizeOf40⟩
theorem aggDiskL : Agg Tryz.prog 26 3 := ⟨Tryz.isAgg26, Tryz.sizeOf26⟩
/-- A store in a box. -/
structure PBox (w : World) (x : Nat) (v : PV) (p : PoolM) : Prop where
  box : Box w x (v.cells p)
  reads : PoolR w v p
theorem PBox.below {w w' : World} {x : Nat} {v : PV} {p : PoolM} (h : PBox w x v p) (hb : Below w.heap.size w w') : PBox w' x v p := ⟨h.box.below hb h.box.lt, h.reads.below hb⟩
theorem PBox.drew {w : World} {x : Nat} {v : PV} {p : PoolM} (h : PBox w x v p) : PBox w.drew x v p := ⟨h.box, h.reads.drew⟩
theorem pbox_new {w : World} {v : PV} {p : PoolM} (h : PoolR w v p) (e : Nat) : PBox (w.alloc (.cells #[v.v0, v.v1, v.vl, .int .i64 p.core.txg, v.vs, v.vd, v.vp, .bool p.core.dirty, v.vi, .int .i64 p.core.logn, .bool p.up] e)) w.heap.size v p :=
  ⟨box_new _ _ _, h.below (Below.new1 _)⟩
theorem PV.diskAt {w : World} {x : Nat} {v : PV} {p : PoolM} (h : Box w x (v.cells p)) : ∀ j u, v.dl[j]? = some u → w.cell? ⟨x, 0 + j, none⟩ = some u := h.midAt [] v.dl (v.kl p.core ++ [.bool p.up]) 0 rfl rfl
theorem PV.coreAt {w : World} {x : Nat} {v : PV} {p : PoolM} (h : Box w x (v.cells p)) : ∀ j u, (v.kl p.core)[j]? = some u → w.cell? ⟨x, 3 + j, none⟩ = some u := h.midAt v.dl (v.kl p.core) [.bool p.up] 3 rfl rfl

set_option maxHeartbeats 2000000 in
theorem toPool_any (v : PV) (p : PoolM) (w : World) (h : PoolR w v p) (hs : PoolShort p) :
    Calls Tryz.prog 7 #[v.val p] w (NewPool w p) := by
  obtain ⟨b1, b2, b3, hsz, hB⟩ := box3 w #[v.v0, v.v1, v.vl, .int .i64 p.core.txg, v.vs, v.vd, v.vp, .bool p.core.dirty, v.vi, .int .i64 p.core.logn, .bool p.up] #[.slice none 0 0, .slice none 0 0, .slice none 0 0, .int .i64 0, .slice none 0 0, .slice none 0 0, .slice none 0 0, .bool false, .slice none 0 0, .int .i64 0, .bool false] #[.slice none 0 0, .slice none 0 0, .slice none 0 0, .int .i64 0, .slice none 0 0, .slice none 0 0, .slice none 0 0, .bool false, .slice none 0 0, .int .i64 0, .bool false] 34 47 47
  have X1 := Lib.hid (show Box _ _ (v.cells p) from b1)
  have X2 := Lib.hid b2
  have X3 := Lib.hid b3
  have B0 := Lib.hid hB
  have HR := Lib.hid h
  have HS := Lib.hid hs
  clear b1 b2 b3 hB hsz h hs
  go_enter Tryz.func7, Tryz.ntmps7
  go_upto_region 2 with fail
  obtain ⟨W, HWE⟩ : ∃ W, ((w.alloc (.cells #[v.v0, v.v1, v.vl, .int .i64 p.core.txg, v.vs, v.vd, v.vp, .bool p.core.dirty, v.vi, .int .i64 p.core.logn, .bool p.up] 34)).alloc (.cells #[.slice none 0 0, .slice none 0 0, .slice none 0 0, .int .i64 0, .slice none 0 0, .slice none 0 0, .slice none 0 0, .bool false, .slice none 0 0, .int .i64 0, .bool false] 47)).alloc (.cells #[.slice none 0 0, .slice none 0 0, .slice none 0 0, .int .i64 0, .slice none 0 0, .slice none 0 0, .slice none 0 0, .bool false, .slice none 0 0, .int .i64 0, .bool false] 47) = W := ⟨_, rfl⟩
  rw [HWE] at X1 X2 X3 B0 ⊢
  clear HWE
  have hl3 : w.heap.size + 1 + 1 < W.heap.size := X3.out.lt
  go_wp2_with (refine wpList_load_cs rfl _ rfl aggDiskL rfl v.dl rfl (PV.diskAt X1.out) ?_)
  refine (toDisk_any _ _ _ p.disk _ (HR.out.d.below B0.out) HS.out.d).mono ?_
  rintro e w1 ⟨u0, u1, ul, rfl, hown, hb⟩
  obtain ⟨A0, c0, A1, c1, Al, cl, rfl, rfl, rfl⟩ := hown.forms
  have OD := Lib.hid (hown.base (Nat.succ_le_of_lt hl3))
  have OL := Lib.hid (show ∀ b, DTurns (.slice A0 p.disk.s0.length c0) (.slice A1 p.disk.s1.length c1) (.slice Al p.disk.late.length cl) b → b < w1.heap.size from fun b e => (hown.turns e).2)
  have Y1 := Lib.hid (X1.out.below hb X1.out.lt)
  have Y2 := Lib.hid (X2.out.below hb X2.out.lt)
  have Y3 := Lib.hid (X3.out.below hb X3.out.lt)
  have B1 := Lib.hid (B0.out.trans (hb.mono B0.out.size))
  have hl4 : w.heap.size + 1 + 1 < w1.heap.size := Nat.lt_of_lt_of_le hl3 hb.size
  clear hb hown X1 X2 X3 B0 hl3
  go_wp2_with (refine wpList_put_mid rfl _ _ rfl rfl aggDiskI rfl [.slice A0 p.disk.s0.length c0, .slice A1 p.disk.s1.length c1, .slice Al p.disk.late.length cl] rfl rfl (by simp [Value.oneCell']) Y3.out [] [.slice none 0 0, .slice none 0 0, .slice none 0 0] [.int .i64 0, .slice none 0 0, .slice none 0 0, .slice none 0 0, .bool false, .slice none 0 0, .int .i64 0, .bool false] [.slice A0 p.disk.s0.length c0, .slice A1 p.disk.s1.length c1, .slice Al p.disk.late.length cl, .int .i64 0, .slice none 0 0, .slice none 0 0, .slice none 0 0, .bool false, .slice none 0 0, .int .i64 0, .bool false] rfl rfl rfl rfl ?_)
  intro W1 P1 Z3
  go_upto_region 3 with fail
  have X1 := Lib.hid (show Box W1 _ (v.cells p) from P1.box (by omega) Y1.out)
  have X2 := Lib.hid (P1.box (by omega) Y2.out)
  have OD1 := Lib.hid (OD.out.kept (w' := W1) (fun b _ hb => P1.block b (by omega)))
  have B2 := Lib.hid (P1.below B1.out (by omega))
  have hl5 : w.heap.size + 1 + 1 < W1.heap.size := by rw [P1.size]; exact hl4
  have OL1 := Lib.hid (show ∀ b, DTurns (.slice A0 p.disk.s0.length c0) (.slice A1 p.disk.s1.length c1) (.slice Al p.disk.late.length cl) b → b < W1.heap.size from fun b e => by rw [P1.size]; exact OL.out b e)
  have X3 := Lib.hid Z3
  clear Z3 P1 Y1 Y2 Y3 OD B1 OL hl4
  go_wp2_with (refine wpList_load_cs rfl _ rfl aggCoreL rfl (v.kl p.core) rfl (PV.coreAt X1.out) ?_)
  refine (toCoreO_any _ _ _ _ p.core _ (HR.out.c.below B2.out) HS.out.c).mono ?_
  rintro e w2 ⟨us, ud, up_, ui, rfl, hown, hb⟩
  obtain ⟨E0, d0, E1, d1, E2, d2, E3, d3, rfl, rfl, rfl, rfl⟩ := hown.reads.forms
  have OX := Lib.hid (show ∀ b, DTurns (.slice A0 p.disk.s0.length c0) (.slice A1 p.disk.s1.length c1) (.slice Al p.disk.late.length cl) b → CTurns (.slice E0 p.core.sets.length d0) (.slice E1 p.core.ddt.length d1) (.slice E2 p.core.parts.length d2) (.slice E3 p.core.safe.length d3) b → False from fun b e1 e2 => by
    have := OL1.out b e1; have := (hown.turns e2).1; omega)
  have OC := Lib.hid (hown.base (Nat.succ_le_of_lt hl5))
  have OD := Lib.hid (OD1.out.below hb)
  have Y1 := Lib.hid (X1.out.below hb X1.out.lt)
  have Y2 := Lib.hid (X2.out.below hb X2.out.lt)
  have Y3 := Lib.hid (X3.out.below hb X3.out.lt)
  have B1 := Lib.hid (B2.out.trans (hb.mono B2.out.size))
  clear hb hown X1 X2 X3 B2 OD1 OL1 hl5
  go_wp2_with (refine wpList_put_mid rfl _ _ rfl rfl aggCore rfl [.int .i64 p.core.txg, .slice E0 p.core.sets.length d0, .slice E1 p.core.ddt.length d1, .slice E2 p.core.parts.length d2, .bool p.core.dirty, .slice E3 p.core.safe.length d3, .int .i64 p.core.logn] rfl rfl (by simp [Value.oneCell']) Y3.out [.slice A0 p.disk.s0.length c0, .slice A1 p.disk.s1.length c1, .slice Al p.disk.late.length cl] [.int .i64 0, .slice none 0 0, .slice none 0 0, .slice none 0 0, .bool false, .slice none 0 0, .int .i64 0] [.bool false] [.slice A0 p.disk.s0.length c0, .slice A1 p.disk.s1.length c1, .slice Al p.disk.late.length cl, .int .i64 p.core.txg, .slice E0 p.core.sets.length d0, .slice E1 p.core.ddt.length d1, .slice E2 p.core.parts.length d2, .bool p.core.dirty, .slice E3 p.core.safe.length d3, .int .i64 p.core.logn, .bool false] rfl rfl rfl rfl ?_)
  intro W2 P1 Z3
  go_upto_region 4 with fail
  have X1 := Lib.hid (show Box W2 _ (v.cells p) from P1.box (by omega) Y1.out)
  have X2 := Lib.hid (P1.box (by omega) Y2.out)
  have OD1 := Lib.hid (OD.out.kept (w' := W2) (fun b _ hb => P1.block b (by omega)))
  have OC1 := Lib.hid (OC.out.kept (w' := W2) (fun b _ hb => P1.block b (by omega)))
  have B2 := Lib.hid (P1.below B1.out (by omega))
  have X3 := Lib.hid Z3
  clear Z3 P1 Y1 Y2 Y3 OD OC B1
  have n10 := X1.out.cell 10 rfl
  have c10 := X3.out.cell 10 rfl
  have f10 := X3.out.open_ 10
  go_upto_region 5 with fail
  have P1 := putAt_setCell W2 (w.heap.size + 1 + 1) 10 (.bool p.up)
  have Y2 := Lib.hid (P1.box (by omega) X2.out)
  have Y3 := Lib.hid (show Box (W2.setCell ⟨w.heap.size + 1 + 1, 10, none⟩ (.bool p.up)) _ [.slice A0 p.disk.s0.length c0, .slice A1 p.disk.s1.length c1, .slice Al p.disk.late.length cl, .int .i64 p.core.txg, .slice E0 p.core.sets.length d0, .slice E1 p.core.ddt.length d1, .slice E2 p.core.parts.length d2, .bool p.core.dirty, .slice E3 p.core.safe.length d3, .int .i64 p.core.logn, .bool p.up] from X3.out.set 10 (.bool p.up))
  have OD := Lib.hid (OD1.out.kept (w' := W2.setCell ⟨w.heap.size + 1 + 1, 10, none⟩ (.bool p.up)) (fun b _ hb => P1.block b (by omega)))
  have OC := Lib.hid (OC1.out.kept (w' := W2.setCell ⟨w.heap.size + 1 + 1, 10, none⟩ (.bool p.up)) (fun b _ hb => P1.block b (by omega)))
  have B1 := Lib.hid (P1.below B2.out (by omega))
  clear P1 X1 X2 X3 OD1 OC1 B2 n10 c10 f10
  generalize W2.setCell ⟨w.heap.size + 1 + 1, 10, none⟩ (.bool p.up) = W3 at Y2 Y3 OD OC B1 ⊢
  go_wp2_with (first
    | (refine wpList_load_box rfl _ rfl aggPool rfl [.slice A0 p.disk.s0.length c0, .slice A1 p.disk.s1.length c1, .slice Al p.disk.late.length cl, .int .i64 p.core.txg, .slice E0 p.core.sets.length d0, .slice E1 p.core.ddt.length d1, .slice E2 p.core.parts.length d2, .bool p.core.dirty, .slice E3 p.core.safe.length d3, .int .i64 p.core.logn, .bool p.up] rfl Y3.out ?_)
    | (refine wpList_put_mid rfl _ _ rfl rfl aggPool rfl [.slice A0 p.disk.s0.length c0, .slice A1 p.disk.s1.length c1, .slice Al p.disk.late.length cl, .int .i64 p.core.txg, .slice E0 p.core.sets.length d0, .slice E1 p.core.ddt.length d1, .slice E2 p.core.parts.length d2, .bool p.core.dirty, .slice E3 p.core.safe.length d3, .int .i64 p.core.logn, .bool p.up] rfl rfl (by simp [Value.oneCell']) Y2.out [] [.slice none 0 0, .slice none 0 0, .slice none 0 0, .int .i64 0, .slice none 0 0, .slice none 0 0, .slice none 0 0, .bool false, .slice none 0 0, .int .i64 0, .bool false] [] [.slice A0 p.disk.s0.length c0, .slice A1 p.disk.s1.length c1, .slice Al p.disk.late.length cl, .int .i64 p.core.txg, .slice E0 p.core.sets.length d0, .slice E1 p.core.ddt.length d1, .slice E2 p.core.parts.length d2, .bool p.core.dirty, .slice E3 p.core.safe.length d3, .int .i64 p.core.logn, .bool p.up] rfl rfl rfl rfl ?_))
  intro W4 P1 Z2
  go_wp2
  refine bodyPost_ret (results_box rfl _ (w.heap.size + 1) [.slice A0 p.disk.s0.length c0, .slice A1 p.disk.s1.length c1, .slice Al p.disk.late.length cl, .int .i64 p.core.txg, .slice E0 p.core.sets.length d0, .slice E1 p.core.ddt.length d1, .slice E2 p.core.parts.length d2, .bool p.core.dirty, .slice E3 p.core.safe.length d3, .int .i64 p.core.logn, .bool p.up] aggPool rfl rfl Z2) rfl ⟨⟨.slice A0 p.disk.s0.length c0, .slice A1 p.disk.s1.length c1, .slice Al p.disk.late.length cl, .slice E0 p.core.sets.length d0, .slice E1 p.core.ddt.length d1, .slice E2 p.core.parts.length d2, .slice E3 p.core.safe.length d3⟩, rfl, ⟨?_, ?_, OX.out⟩, P1.below B1.out (by omega)⟩
  · exact (OD.out.kept (fun b _ hb => P1.block b (by omega))).base (by omega)
  · exact (OC.out.kept (fun b _ hb => P1.block b (by omega))).base (by omega)

set_option maxHeartbeats 1000000 in
theorem eqPool_same (v u : PV) (p : PoolM) (w : World) (h : PoolR w v p) (h' : PoolR w u p) (hs : PoolShort p) :
    Calls Tryz.prog 9 #[v.val p, u.val p] w fun e w' => e = .returned (.bool true) ∧ Below w.heap.size w w' := by
  have hnot : ∀ (x : Bool) (w : World), (Op.unary .not (.bool x)).run Tryz.prog w = .ok (.bool (!x)) w := fun _ _ => rfl
  obtain ⟨b1, b2, hsz, hB⟩ := box2 w #[v.v0, v.v1, v.vl, .int .i64 p.core.txg, v.vs, v.vd, v.vp, .bool p.core.dirty, v.vi, .int .i64 p.core.logn, .bool p.up] #[u.v0, u.v1, u.vl, .int .i64 p.core.txg, u.vs, u.vd, u.vp, .bool p.core.dirty, u.vi, .int .i64 p.core.logn, .bool p.up] 47 47
  have X1 := Lib.hid (show PBox _ _ v p from ⟨b1, h.below hB⟩)
  have X2 := Lib.hid (show PBox _ _ u p from ⟨b2, h'.below hB⟩)
  have B0 := Lib.hid hB
  have HS := Lib.hid hs
  clear b1 b2 hB hsz h h' hs
  go_enter Tryz.func9, Tryz.ntmps9
  go_upto_region 1 with fail
  obtain ⟨W, HWE⟩ : ∃ W, (w.alloc (.cells #[v.v0, v.v1, v.vl, .int .i64 p.core.txg, v.vs, v.vd, v.vp, .bool p.core.dirty, v.vi, .int .i64 p.core.logn, .bool p.up] 47)).alloc (.cells #[u.v0, u.v1, u.vl, .int .i64 p.core.txg, u.vs, u.vd, u.vp, .bool p.core.dirty, u.vi, .int .i64 p.core.logn, .bool p.up] 47) = W := ⟨_, rfl⟩
  rw [HWE] at X1 X2 B0 ⊢
  clear HWE
  go_wp2_with (first
    | (refine wpList_load_cs rfl _ rfl aggDiskI rfl v.dl rfl (PV.diskAt X1.out.box) ?_)
    | (refine wpList_load_cs rfl _ rfl aggDiskI rfl u.dl rfl (PV.diskAt X2.out.box) ?_))
  refine (eqDisk_same _ _ _ _ _ _ p.disk _ X1.out.reads.d X2.out.reads.d HS.out.d).mono ?_
  rintro e w1 ⟨rfl, hb⟩
  have Y1 := Lib.hid (X1.out.below hb)
  have Y2 := Lib.hid (X2.out.below hb)
  have B1 := Lib.hid (B0.out.trans (hb.mono B0.out.size))
  clear X1 X2 B0 hb
  go_wp2_with (first
    | (refine wpList_load_cs rfl _ rfl aggCore rfl (v.kl p.core) rfl (PV.coreAt Y1.out.box) ?_)
    | (refine wpList_load_cs rfl _ rfl aggCore rfl (u.kl p.core) rfl (PV.coreAt Y2.out.box) ?_))
  refine (eqCore_same _ _ _ _ _ _ _ _ p.core _ Y1.out.reads.c Y2.out.reads.c HS.out.c).mono ?_
  rintro e w2 ⟨rfl, hb⟩
  have X1 := Lib.hid (Y1.out.below hb)
  have X2 := Lib.hid (Y2.out.below hb)
  have B0 := Lib.hid (B1.out.trans (hb.mono B1.out.size))
  clear Y1 Y2 B1 hb
  have n10 := X1.out.box.cell 10 rfl
  have m10 := X2.out.box.cell 10 rfl
  go_wp2
  go_ret
  exact ⟨rfl, B0.out⟩

set_option maxHeartbeats 1000000 in
theorem szPool_any (v : PV) (p : PoolM) (left : Int) (w : World) (h : PoolR w v p) (hz0 : ∀ s ∈ p.disk.s0, s.size ≤ maxLen) (hz1 : ∀ s ∈ p.disk.s1, s.size ≤ maxLen) (hzl : ∀ x ∈ p.disk.late, x.text.size ≤ maxLen) (hz : ∀ x ∈ p.core.sets, x.name.size ≤ maxLen ∧ x.frm.size ≤ maxLen) (h0 : 0 ≤ left) (h1 : left ≤ 1048576) :
    Calls Tryz.prog 5 #[v.val p, .int .i64 left] w fun e w' => (∃ r : Int, e = .returned (.int .i64 r) ∧ (r = -1 ∨ 0 ≤ r ∧ r ≤ left ∧ PoolShort p)) ∧ Below w.heap.size w w' := by
  obtain ⟨b1, hsz, hB⟩ := box1 w #[v.v0, v.v1, v.vl, .int .i64 p.core.txg, v.vs, v.vd, v.vp, .bool p.core.dirty, v.vi, .int .i64 p.core.logn, .bool p.up] 34
  have X1 := Lib.hid (show PBox _ _ v p from ⟨b1, h.below hB⟩)
  have B0 := Lib.hid hB
  have H0 := Lib.hid h0
  have H1 := Lib.hid h1
  have HZ0 := Lib.hid hz0
  have HZ1 := Lib.hid hz1
  have HZL := Lib.hid hzl
  have HZ := Lib.hid hz
  clear b1 hB hsz h h0 h1 hz0 hz1 hzl hz
  go_enter Tryz.func5, Tryz.ntmps5
  go_upto_region 1 with fail
  obtain ⟨W, HWE⟩ : ∃ W, w.alloc (.cells #[v.v0, v.v1, v.vl, .int .i64 p.core.txg, v.vs, v.vd, v.vp, .bool p.core.dirty, v.vi, .int .i64 p.core.logn, .bool p.up] 34) = W := ⟨_, rfl⟩
  rw [HWE] at X1 B0 ⊢
  clear HWE
  go_wp2_with (refine wpList_load_cs rfl _ rfl aggDiskL rfl v.dl rfl (PV.diskAt X1.out.box) ?_)
  refine (szDisk_any _ _ _ p.disk left _ X1.out.reads.d HZ0.out HZ1.out HZL.out H0.out H1.out).mono ?_
  rintro e w1 ⟨⟨r, rfl, hr⟩, hb⟩
  have Y1 := Lib.hid (X1.out.below hb)
  have B1 := Lib.hid (B0.out.trans (hb.mono B0.out.size))
  clear X1 B0 hb
  rcases hr with rfl | ⟨hr0, hr1⟩
  · go_wp2
    go_ret
    exact ⟨⟨-1, rfl, Or.inl rfl⟩, B1.out⟩
  have HSD := Lib.hid (short_of_sz (d := p.disk) (by have := H1.out; omega))
  have hr2 : ¬ r < 0 := by omega
  have hr3 : r ≤ left := by omega
  clear hr1
  go_wp2_with (refine wpList_load_cs rfl _ rfl aggCoreL rfl (v.kl p.core) rfl (PV.coreAt Y1.out.box) ?_)
  refine (szCore_any _ _ _ _ p.core r _ Y1.out.reads.c HZ.out hr0 (Int.le_trans hr3 H1.out)).mono ?_
  rintro e w2 ⟨⟨q, rfl, hq⟩, hb⟩
  have B0 := Lib.hid (B1.out.trans (hb.mono B1.out.size))
  clear Y1 B1 hb
  rcases hq with rfl | ⟨hq0, hq1, hq2⟩
  · go_wp2
    go_ret
    exact ⟨⟨-1, rfl, Or.inl rfl⟩, B0.out⟩
  have HSC := Lib.hid hq2
  have hq3 : ¬ q < 0 := by omega
  have HQ := Lib.hid (show q ≤ left by omega)
  clear hq1 hq2 hr3
  go_wp2
  go_ret
  exact ⟨⟨q, rfl, Or.inr ⟨hq0, HQ.out, HSD.out, HSC.out⟩⟩, B0.out⟩
end Go.Proofs.YtojjenclcidnkaaGreatDoor

/-
  A list of numbers marked: what it holds then.
-/
set_option maxRecDepth 100000
namespace Go.Proofs.YtojjenclcidnkaaGreatDoor
open Go.ChangeShapes Go.WideShapes Go.ChangeAt Go.RowKit Go.Proofs.Palim

def MarkedIM (k : Nat) (v : Value) (base n : Nat) (w : World) (e : Ending) (w' : World) : Prop :=
  e = .returned (.int .i64 ((k + n : Nat) : Int)) ∧ w'.ownsRow base 3 1 v n (ics (imarks k n)) ∧ Turned (fun b => v.ownBlock = some b) w w'
theorem below_of_turned {S : Nat → Prop} {B : Nat} {w w' : World} (ht : Turned S w w') (hS : ∀ b, S b → B ≤ b) (hB : B ≤ w.heap.size) : Below B w w' :=
  ⟨ht.os, ht.tape, ht.output, ht.size, fun i hi => ht.block i (by omega) (fun h => by have := hS i h; omega)⟩

set_option maxHeartbeats 400000 in
theorem markIntM_any (v : Value) (n k base : Nat) (xs0 : List Value) (w : World) (h : w.ownsRow base 3 1 v n xs0) (hs : n ≤ 1048576) (hk0 : 1 ≤ k) (hk1 : k ≤ 100000000) :
    Calls Tryz.prog 40 #[v, .int .i64 (k : Int)] w (MarkedIM k v base n w) := by
  by_cases hn : n = 0
  · subst hn
    obtain ⟨_, A, c, rfl, _, _, _⟩ := sl_of_own h
    have HO := Lib.hid h
    clear h
    go_enter Tryz.func40, Tryz.ntmps40
    go_wp2
    go_loopw [1, 5] (fun l i wr => l = .int .i64 (k : Int) ∧ i = .int .i64 0 ∧ wr = w) (fun _ _ _ => 0)
    case atStart => exact ⟨rfl, rfl, rfl⟩
    case round =>
      obtain ⟨rfl, rfl, rfl⟩ := hrel
      go_wp2
      go_ret
      refine ⟨rfl, ?_, Turned.refl _ _⟩
      have h0 := HO.out
      have e0 := List.length_eq_zero_iff.1 (show xs0.length = 0 from by simpa using h0.1)
      rw [e0] at h0
      exact h0
  · obtain ⟨g, cap, rfl, hbg, hgl⟩ := h.form (by omega)
    have hcp : cap ≤ maxLen ∧ n ≤ cap := by
      rcases h.2 with ⟨hv, _⟩ | ⟨g', cap', cur, hv, _, _, h1, h2, _⟩
      · cases hv
      · injection hv with e1 e2 e3
        subst e3
        exact ⟨h2, h1⟩
    obtain ⟨hcp1, hcp2⟩ := hcp
    unfold maxLen at hcp1
    have HO0 := Lib.hid h
    clear h
    go_enter Tryz.func40, Tryz.ntmps40
    go_wp2
    go_loopw [1, 5] (fun l i wr => ∃ (j kk : Nat) (xs : List Value), j ≤ n ∧ kk = k + j ∧ l = .int .i64 (kk : Int) ∧ i = .int .i64 (j : Int) ∧ Hid (wr.ownsRow base 3 1 (.slice (some ⟨g, 0, none⟩) n cap) n xs) ∧ Hid (xs.take j = ics (imarks k j)) ∧ Hid (Turned (fun b => b = g) w wr)) (fun _ i _ => n - (RowKit.intOf i).toNat)
    case atStart => exact ⟨0, k, _, Nat.zero_le _, rfl, rfl, rfl, HO0, Lib.hid rfl, Lib.hid (Turned.refl _ _)⟩
    case round =>
      obtain ⟨j, kk, xs, hj, hkk, rfl, rfl, HO, HT, HW⟩ := hrel
      have HK := Lib.hid hkk
      have hkb : kk ≤ 101048576 := by omega
      have hkb1 : 1 ≤ kk := by omega
      clear hkk
      by_cases hlt : j < n
      · obtain ⟨⟨u, _, hcu⟩, hfu, _, _⟩ := own_at HO.out j (by omega)
        have HO2 := Lib.hid (own_set HO.out j (.int .i64 (kk : Int)))
        have HW2 := Lib.hid (turned_setCell HW.out (p := ⟨g, j, none⟩) rfl (.int .i64 (kk : Int)))
        have HT2 := Lib.hid (show (xs.set j (.int .i64 (kk : Int))).take (j + 1) = ics (imarks k (j + 1)) from by
          have hl : j < xs.length := by have := HO.out.1; omega
          rw [take_set_succ xs j _ hl, HT.out, imarks_succ, ics_snoc, HK.out])
        clear HO HT HW
        go_wp2
        go_roundw
        case rel => exact ⟨j + 1, kk + 1, _, by omega, by have := HK.out; omega, by go_num, by go_num, HO2, HT2, HW2⟩
        case measure => simp [RowKit.intOf]; omega
      · have hjn : j = n := by omega
        have HX := Lib.hid (show xs = ics (imarks k n) from by
          have hl := HO.out.1
          have ht := HT.out
          rw [List.take_of_length_le (by omega), hjn] at ht
          exact ht)
        have HKN := Lib.hid (show kk = k + n from by rw [HK.out, hjn])
        clear hjn
        go_wp2
        go_ret
        refine ⟨?_, ?_, HW.out.mono ?_⟩
        · exact ret_int (by rw [HKN.out])
        · rw [← HX.out]; exact HO.out
        · rintro b _ rfl; rfl
end Go.Proofs.YtojjenclcidnkaaGreatDoor

/-
  A core of the call's own marked: what it holds then; sets and cores asked for their marks.
-/
set_option maxRecDepth 100000
namespace Go.Proofs.YtojjenclcidnkaaGreatDoor
open Go.ChangeShapes Go.WideShapes Go.ChangeAt Go.RowKit Go.Proofs.Palim

set_option maxHeartbeats 4000000 in
theorem heldCoreSetS_any (v : Value) (n k : Nat) (xs : List Value) (w : World) (h : Sl w 31 v n xs) (hm : SMk k xs n) (hv : ∀ b, v.ownBlock = some b → b < w.heap.size) (hs : n ≤ 1048576) (hk0 : 1 ≤ k) (hk1 : k ≤ 100000000) :
    Calls Tryz.prog 41 #[v, .int .i64 (k : Int)] w (HeldPost ((k + n * 7 : Nat) : Int) w) := by
  by_cases hn : n = 0
  · subst hn
    obtain ⟨_, A, c, rfl, _, _, _⟩ := h
    clear hv hm
    go_enter Tryz.func41, Tryz.ntmps41
    go_wp2
    go_loopw [1, 5] (fun l i wr => l = .int .i64 (k : Int) ∧ i = .int .i64 0 ∧ wr = w) (fun _ _ _ => 0)
    case atStart => exact ⟨rfl, rfl, rfl⟩
    case round =>
      obtain ⟨rfl, rfl, rfl⟩ := hrel
      go_wp2
      go_ret
      exact ⟨rfl, Below.refl _ _⟩
  · obtain ⟨b, off, c, rfl, hnc, hcm, hcell⟩ := h.form (by omega)
    have hbl : b < w.heap.size := hv b rfl
    have HC := Lib.hid hcell
    have HM := Lib.hid hm
    unfold maxLen at hcm
    clear hcell h hv hm
    go_enter Tryz.func41, Tryz.ntmps41
    go_wp2
    go_loopw [1, 5] (fun l i wr => ∃ (j kk : Nat), j ≤ n ∧ Hid (kk = k + j * 7) ∧ l = .int .i64 (kk : Int) ∧ i = .int .i64 (j : Int) ∧ Hid (Below w.heap.size w wr)) (fun _ i _ => n - (RowKit.intOf i).toNat)
    case atStart => exact ⟨0, k, Nat.zero_le _, Lib.hid (by omega), rfl, rfl, Lib.hid (Below.refl _ _)⟩
    case round =>
      obtain ⟨j, kk, hj, HK, rfl, rfl, HB⟩ := hrel
      have hkb : kk ≤ 107340032 := by have := HK.out; omega
      have hkb1 : 1 ≤ kk := by have := HK.out; omega
      by_cases hlt : j < n
      · obtain ⟨a0, a1, a2, a3, a4, a5, a6⟩ := HM.out j hlt
        rw [← HK.out] at a0 a1 a2 a3 a4 a5 a6
        have h0 : wr.cell? ⟨b, off + j * 31, none⟩ = some (.string (mkText kk)) := (HB.out.cell hbl).trans (HC.out _ _ a0)
        have h1 : wr.cell? ⟨b, off + j * 31 + 1, none⟩ = some (.int .i64 ((kk : Int) + 1)) := (HB.out.cell hbl).trans (HC.out _ _ a1)
        have h2 : wr.cell? ⟨b, off + j * 31 + 2, none⟩ = some (.string (mkText (kk + 2))) := (HB.out.cell hbl).trans (HC.out _ _ a2)
        have h3 : wr.cell? ⟨b, off + j * 31 + 27, none⟩ = some (.int .i64 ((kk : Int) + 3)) := (HB.out.cell hbl).trans (HC.out _ _ a3)
        have h4 : wr.cell? ⟨b, off + j * 31 + 27 + 1, none⟩ = some (.int .i64 ((kk : Int) + 4)) := (HB.out.cell hbl).trans (HC.out _ _ a4)
        have h5 : wr.cell? ⟨b, off + j * 31 + 27 + 2, none⟩ = some (.int .i64 ((kk : Int) + 5)) := (HB.out.cell hbl).trans (HC.out _ _ a5)
        have h6 : wr.cell? ⟨b, off + j * 31 + 30, none⟩ = some (.bool (decide ((kk + 6) % 3 = 0))) := (HB.out.cell hbl).trans (HC.out _ _ a6)
        have hrem : (((kk : Int) + 1 + 1 + 1 + 1 + 1 + 1) % 3 == 0) = decide ((kk + 6) % 3 = 0) := by
          rw [show (kk : Int) + 1 + 1 + 1 + 1 + 1 + 1 = ((kk + 6 : Nat) : Int) by omega]
          by_cases h3 : (kk + 6) % 3 = 0
          · rw [decide_eq_true h3]; simp; omega
          · rw [decide_eq_false h3]; simp; omega
        clear a0 a1 a2 a3 a4 a5 a6
        have hj1 : (j : Int) < (n : Int) := by omega
        have hbr : b < wr.heap.size := Nat.lt_of_lt_of_le hbl HB.out.size
        go_wp2_with fail
        go_region_held3 (fun w' => w'.cell? ⟨b, off + j * 31, none⟩ = some (.string (mkText kk)))
          (first
            | go_keep
            | (rw [hb2.cell (by simp <;> omega)]; assumption))
          ((go_at_call 87; ((refine (markText_any kk _ (by omega) (by omega)).mono ?_); rintro e w2 ⟨rfl, hb2⟩)))
        have HB2 := Lib.hid (HB.out.drew.trans (hb2.mono (by have := HB.out.size; simp; omega)))
        have k1 := (hb2.cell (by simpa using hbr)).trans h1
        have k2 := (hb2.cell (by simpa using hbr)).trans h2
        have k3 := (hb2.cell (by simpa using hbr)).trans h3
        have k4 := (hb2.cell (by simpa using hbr)).trans h4
        have k5 := (hb2.cell (by simpa using hbr)).trans h5
        have k6 := (hb2.cell (by simpa using hbr)).trans h6
        have hbr2 : b < w2.heap.size := Nat.lt_of_lt_of_le hbl HB2.out.size
        clear HB hb2 h0 h1 h2 h3 h4 h5 h6
        go_wp2_with fail
        go_region_held3 (fun w' => w'.cell? ⟨b, off + j * 31 + 2, none⟩ = some (.string (mkText (kk + 2))))
          (first
            | go_keep
            | (rw [hb2.cell (by simp <;> omega)]; assumption))
          ((go_at_call 87; ((refine (markText_any (kk + 2) _ (by omega) (by omega)).mono ?_); rintro e w3 ⟨rfl, hb2⟩)))
        have HB3 := Lib.hid (HB2.out.drew.trans (hb2.mono (by have := HB2.out.size; simp; omega)))
        have l3 := (hb2.cell (by simpa using hbr2)).trans k3
        have l4 := (hb2.cell (by simpa using hbr2)).trans k4
        have l5 := (hb2.cell (by simpa using hbr2)).trans k5
        have l6 := (hb2.cell (by simpa using hbr2)).trans k6
        clear HB2 hb2 k1 k2 k3 k4 k5 k6
        go_wp2
        go_roundw
        case rel => exact ⟨j + 1, kk + 7, by omega, Lib.hid (by have := HK.out; omega), by go_num, by go_num, HB3⟩
        case measure => simp [RowKit.intOf]; omega
      · have HKN := Lib.hid (show kk = k + n * 7 from by have := HK.out; omega)
        go_wp2
        go_ret
        exact ⟨ret_int (by rw [HKN.out]), HB.out⟩

/-- A core of the call's own that holds the marks from k on (its numbers of elements). -/
structure CoreHd (k : Nat) (w : World) (base : Nat) (vs vd vp vi : Value) (ns nd np ni : Nat) : Prop where
  s : ∃ xs, w.ownsRow base 70 31 vs ns xs ∧ SMk k xs ns
  d : w.ownsRow base 135 3 vd nd (ecs (emarks (k + ns * 7) nd))
  p : w.ownsRow base 67 3 vp np (pcs (pmarks (k + ns * 7 + 3 * nd) np))
  i : w.ownsRow base 3 1 vi ni (ics (imarks (k + ns * 7 + 3 * nd + 3 * np) ni))
theorem CoreHd.kept {k : Nat} {w w' : World} {base : Nat} {vs vd vp vi : Value} {ns nd np ni : Nat} (h : CoreHd k w base vs vd vp vi ns nd np ni) (hb : ∀ b, b < w.heap.size → base ≤ b → w'.heap[b]? = w.heap[b]?) : CoreHd k w' base vs vd vp vi ns nd np ni := by
  obtain ⟨xs, h1, h2⟩ := h.s
  exact ⟨⟨xs, own_kept h1 fun b e => hb b (h1.lt b e).2 (h1.lt b e).1, h2⟩, own_kept h.d fun b e => hb b (h.d.lt b e).2 (h.d.lt b e).1, own_kept h.p fun b e => hb b (h.p.lt b e).2 (h.p.lt b e).1, own_kept h.i fun b e => hb b (h.i.lt b e).2 (h.i.lt b e).1⟩
def cend (k ns nd np ni : Nat) : Nat := k + ns * 7 + 3 * nd + 3 * np + ni

set_option maxHeartbeats 2000000 in
theorem markCoreH_any (vs vd vp vi : Value) (c : CoreM) (k base : Nat) (w : World) (h : CoreOwn w base vs vd vp vi c) (hs : CoreShort c) (hk0 : 1 ≤ k) (hk1 : k ≤ 70000000) :
    Calls Tryz.prog 13 #[cv c vs vd vp vi, .int .i64 (k : Int)] w fun e w' => e = .returned (.int .i64 ((cend k c.sets.length c.ddt.length c.parts.length c.safe.length : Nat) : Int)) ∧ CoreHd k w' base vs vd vp vi c.sets.length c.ddt.length c.parts.length c.safe.length ∧ Turned (CTurns vs vd vp vi) w w' := by
  have HO := Lib.hid h
  have HS := Lib.hid hs
  have h1 := hs.s
  have h2 := hs.d
  have h3 := hs.p
  have h4 := hs.i
  obtain ⟨A0, k0, A1, k1, A2, k2, A3, k3, rfl, rfl, rfl, rfl⟩ := h.reads.forms
  have hn : Below w.heap.size w (w.alloc (.cells #[.int .i64 c.txg, .slice A0 c.sets.length k0, .slice A1 c.ddt.length k1, .slice A2 c.parts.length k2, .bool c.dirty, .slice A3 c.safe.length k3, .int .i64 c.logn] 45)) := (Below.refl _ w).alloc (Nat.le_refl _) _
  have XC := Lib.hid (show Box _ w.heap.size [.int .i64 c.txg, .slice A0 c.sets.length k0, .slice A1 c.ddt.length k1, .slice A2 c.parts.length k2, .bool c.dirty, .slice A3 c.safe.length k3, .int .i64 c.logn] from box_new w #[.int .i64 c.txg, .slice A0 c.sets.length k0, .slice A1 c.ddt.length k1, .slice A2 c.parts.length k2, .bool c.dirty, .slice A3 c.safe.length k3, .int .i64 c.logn] 45)
  have HO1 := Lib.hid (HO.out.below hn)
  have HT1 := Lib.hid (turned_of_below (S := CTurns (.slice A0 c.sets.length k0) (.slice A1 c.ddt.length k1) (.slice A2 c.parts.length k2) (.slice A3 c.safe.length k3)) hn)
  have HN := Lib.hid (show ∀ b, CTurns (.slice A0 c.sets.length k0) (.slice A1 c.ddt.length k1) (.slice A2 c.parts.length k2) (.slice A3 c.safe.length k3) b → b ≠ w.heap.size from fun b e => by
    rcases e with e | e | e | e
    · have := (HO.out.s.lt b e).2; omega
    · have := (HO.out.d.lt b e).2; omega
    · have := (HO.out.p.lt b e).2; omega
    · have := (HO.out.i.lt b e).2; omega)
  clear h hs hn HO
  go_enter Tryz.func13, Tryz.ntmps13
  go_upto_region 1 with fail
  obtain ⟨W0, HWE⟩ : ∃ W0, w.alloc (.cells #[.int .i64 c.txg, .slice A0 c.sets.length k0, .slice A1 c.ddt.length k1, .slice A2 c.parts.length k2, .bool c.dirty, .slice A3 c.safe.length k3, .int .i64 c.logn] 45) = W0 := ⟨_, rfl⟩
  rw [HWE] at XC HO1 HT1 ⊢
  clear HWE
  have n1 := XC.out.cell 1 rfl
  go_wp2_with fail
  refine (markCoreSetS_any _ _ k base _ _ HO1.out.s h1 hk0 (by omega)).mono ?_
  rintro e w2 ⟨rfl, ⟨xs, hxs, hmk⟩, ht⟩
  have XC2 := Lib.hid (XC.out.kept (ht.block _ XC.out.lt (fun e => HN.out _ (Or.inl e) rfl)))
  have HT2 := Lib.hid (HT1.out.trans (ht.mono (fun b _ e => Or.inl e)))
  have OS2 := Lib.hid hxs
  have HMK := Lib.hid hmk
  have OD2 := Lib.hid (own_kept HO1.out.d (w' := w2) (fun b e => ht.block b (HO1.out.d.lt b e).2 (fun e' => HO1.out.sd b e' e)))
  have OP2 := Lib.hid (own_kept HO1.out.p (w' := w2) (fun b e => ht.block b (HO1.out.p.lt b e).2 (fun e' => HO1.out.sp b e' e)))
  have OI2 := Lib.hid (own_kept HO1.out.i (w' := w2) (fun b e => ht.block b (HO1.out.i.lt b e).2 (fun e' => HO1.out.si b e' e)))
  clear n1 XC HT1 ht hxs hmk
  have n2 := XC2.out.cell 2 rfl
  go_wp2_with fail
  refine (markDdtEntryS_any _ _ (k + c.sets.length * 7) base _ _ OD2.out h2 (by omega) (by omega)).mono ?_
  rintro e w3 ⟨rfl, hod, ht⟩
  have XC3 := Lib.hid (XC2.out.kept (ht.block _ XC2.out.lt (fun e => HN.out _ (Or.inr (Or.inl e)) rfl)))
  have HT3 := Lib.hid (HT2.out.trans (ht.mono (fun b _ e => Or.inr (Or.inl e))))
  have OS3 := Lib.hid (own_kept OS2.out (w' := w3) (fun b e => ht.block b (OS2.out.lt b e).2 (fun e' => HO1.out.sd b e e')))
  have OD3 := Lib.hid hod
  have OP3 := Lib.hid (own_kept OP2.out (w' := w3) (fun b e => ht.block b (OP2.out.lt b e).2 (fun e' => HO1.out.dp b e' e)))
  have OI3 := Lib.hid (own_kept OI2.out (w' := w3) (fun b e => ht.block b (OI2.out.lt b e).2 (fun e' => HO1.out.di b e' e)))
  clear n2 XC2 HT2 OS2 OD2 OP2 OI2 ht hod
  have n3 := XC3.out.cell 3 rfl
  go_wp2_with fail
  refine (markPtrS_any _ _ (k + c.sets.length * 7 + 3 * c.ddt.length) base _ _ OP3.out h3 (by omega) (by omega)).mono ?_
  rintro e w4 ⟨rfl, hop, ht⟩
  have XC4 := Lib.hid (XC3.out.kept (ht.block _ XC3.out.lt (fun e => HN.out _ (Or.inr (Or.inr (Or.inl e))) rfl)))
  have HT4 := Lib.hid (HT3.out.trans (ht.mono (fun b _ e => Or.inr (Or.inr (Or.inl e)))))
  have OS4 := Lib.hid (own_kept OS3.out (w' := w4) (fun b e => ht.block b (OS3.out.lt b e).2 (fun e' => HO1.out.sp b e e')))
  have OD4 := Lib.hid (own_kept OD3.out (w' := w4) (fun b e => ht.block b (OD3.out.lt b e).2 (fun e' => HO1.out.dp b e e')))
  have OP4 := Lib.hid hop
  have OI4 := Lib.hid (own_kept OI3.out (w' := w4) (fun b e => ht.block b (OI3.out.lt b e).2 (fun e' => HO1.out.pi b e' e)))
  clear n3 XC3 HT3 OS3 OD3 OP3 OI3 ht hop
  have n5 := XC4.out.cell 5 rfl
  go_wp2_with fail
  refine (markIntM_any _ _ (k + c.sets.length * 7 + 3 * c.ddt.length + 3 * c.parts.length) base _ _ OI4.out h4 (by omega) (by omega)).mono ?_
  rintro e w5 ⟨rfl, hoi, ht⟩
  have HT5 := Lib.hid (HT4.out.trans (ht.mono (fun b _ e => Or.inr (Or.inr (Or.inr e)))))
  have OS5 := Lib.hid (own_kept OS4.out (w' := w5) (fun b e => ht.block b (OS4.out.lt b e).2 (fun e' => HO1.out.si b e e')))
  have OD5 := Lib.hid (own_kept OD4.out (w' := w5) (fun b e => ht.block b (OD4.out.lt b e).2 (fun e' => HO1.out.di b e e')))
  have OP5 := Lib.hid (own_kept OP4.out (w' := w5) (fun b e => ht.block b (OP4.out.lt b e).2 (fun e' => HO1.out.pi b e e')))
  have OI5 := Lib.hid hoi
  clear n5 XC4 HT4 OS4 OD4 OP4 OI4 ht hoi
  go_wp2
  go_ret
  exact ⟨rfl, ⟨⟨xs, OS5.out, HMK.out⟩, OD5.out, OP5.out, OI5.out⟩, HT5.out⟩

set_option maxHeartbeats 2000000 in
theorem heldCore_any (vs vd vp vi : Value) (c : CoreM) (k base : Nat) (w : World) (h : CoreHd k w base vs vd vp vi c.sets.length c.ddt.length c.parts.length c.safe.length) (hs : CoreShort c) (hk0 : 1 ≤ k) (hk1 : k ≤ 70000000) :
    Calls Tryz.prog 14 #[cv c vs vd vp vi, .int .i64 (k : Int)] w (HeldPost ((cend k c.sets.length c.ddt.length c.parts.length c.safe.length : Nat) : Int) w) := by
  have h1 := hs.s
  have h2 := hs.d
  have h3 := hs.p
  have h4 := hs.i
  obtain ⟨xs, hxs, hmk⟩ := h.s
  obtain ⟨_, A0, k0, rfl, _, _, _⟩ := sl_of_own hxs
  obtain ⟨_, A1, k1, rfl, _, _, _⟩ := sl_of_own h.d
  obtain ⟨_, A2, k2, rfl, _, _, _⟩ := sl_of_own h.p
  obtain ⟨_, A3, k3, rfl, _, _, _⟩ := sl_of_own h.i
  have HMK := Lib.hid hmk
  have hn : Below w.heap.size w (w.alloc (.cells #[.int .i64 c.txg, .slice A0 c.sets.length k0, .slice A1 c.ddt.length k1, .slice A2 c.parts.length k2, .bool c.dirty, .slice A3 c.safe.length k3, .int .i64 c.logn] 45)) := (Below.refl _ w).alloc (Nat.le_refl _) _
  have XC := Lib.hid (show Box _ w.heap.size [.int .i64 c.txg, .slice A0 c.sets.length k0, .slice A1 c.ddt.length k1, .slice A2 c.parts.length k2, .bool c.dirty, .slice A3 c.safe.length k3, .int .i64 c.logn] from box_new w #[.int .i64 c.txg, .slice A0 c.sets.length k0, .slice A1 c.ddt.length k1, .slice A2 c.parts.length k2, .bool c.dirty, .slice A3 c.safe.length k3, .int .i64 c.logn] 45)
  have OS := Lib.hid (own_kept hxs (fun b e => hn.block b (hxs.lt b e).2))
  have OD := Lib.hid (own_kept h.d (fun b e => hn.block b (h.d.lt b e).2))
  have OP := Lib.hid (own_kept h.p (fun b e => hn.block b (h.p.lt b e).2))
  have OI := Lib.hid (own_kept h.i (fun b e => hn.block b (h.i.lt b e).2))
  have B0 := Lib.hid hn
  clear h hs hn hxs hmk
  go_enter Tryz.func14, Tryz.ntmps14
  go_upto_region 1 with fail
  obtain ⟨W0, HWE⟩ : ∃ W0, w.alloc (.cells #[.int .i64 c.txg, .slice A0 c.sets.length k0, .slice A1 c.ddt.length k1, .slice A2 c.parts.length k2, .bool c.dirty, .slice A3 c.safe.length k3, .int .i64 c.logn] 45) = W0 := ⟨_, rfl⟩
  rw [HWE] at XC OS OD OP OI B0 ⊢
  clear HWE
  have n1 := XC.out.cell 1 rfl
  go_wp2_with fail
  refine (heldCoreSetS_any _ _ k _ _ (sl_of_own OS.out) HMK.out (fun b e => (OS.out.lt b e).2) h1 hk0 (by omega)).mono ?_
  rintro e w2 ⟨rfl, hb⟩
  have XC2 := Lib.hid (XC.out.below hb XC.out.lt)
  have OD2 := Lib.hid (own_kept OD.out (fun b e => hb.block b (OD.out.lt b e).2))
  have OP2 := Lib.hid (own_kept OP.out (fun b e => hb.block b (OP.out.lt b e).2))
  have OI2 := Lib.hid (own_kept OI.out (fun b e => hb.block b (OI.out.lt b e).2))
  have B2 := Lib.hid (B0.out.trans (hb.mono B0.out.size))
  clear hb XC OD OP OI B0
  clear n1 OS
  have n2 := XC2.out.cell 2 rfl
  have g2 : ¬ ((k + c.sets.length * 7 : Nat) : Int) < 0 := by omega
  go_wp2_with fail
  refine (heldDdtEntryS_any _ _ (k + c.sets.length * 7) _ (sl_of_own OD2.out) (fun b e => (OD2.out.lt b e).2) h2 (by omega) (by omega)).mono ?_
  rintro e w3 ⟨rfl, hb⟩
  have XC3 := Lib.hid (XC2.out.below hb XC2.out.lt)
  have OD3 := Lib.hid (own_kept OD2.out (fun b e => hb.block b (OD2.out.lt b e).2))
  have OP3 := Lib.hid (own_kept OP2.out (fun b e => hb.block b (OP2.out.lt b e).2))
  have OI3 := Lib.hid (own_kept OI2.out (fun b e => hb.block b (OI2.out.lt b e).2))
  have B3 := Lib.hid (B2.out.trans (hb.mono B2.out.size))
  clear hb XC2 OD2 OP2 OI2 B2
  clear n2 g2
  have n3 := XC3.out.cell 3 rfl
  have g3 : ¬ ((k + c.sets.length * 7 + 3 * c.ddt.length : Nat) : Int) < 0 := by omega
  go_wp2_with fail
  refine (heldPtrS_any _ _ (k + c.sets.length * 7 + 3 * c.ddt.length) _ (sl_of_own OP3.out) (fun b e => (OP3.out.lt b e).2) h3 (by omega) (by omega)).mono ?_
  rintro e w4 ⟨rfl, hb⟩
  have XC4 := Lib.hid (XC3.out.below hb XC3.out.lt)
  have OD4 := Lib.hid (own_kept OD3.out (fun b e => hb.block b (OD3.out.lt b e).2))
  have OP4 := Lib.hid (own_kept OP3.out (fun b e => hb.block b (OP3.out.lt b e).2))
  have OI4 := Lib.hid (own_kept OI3.out (fun b e => hb.block b (OI3.out.lt b e).2))
  have B4 := Lib.hid (B3.out.trans (hb.mono B3.out.size))
  clear hb XC3 OD3 OP3 OI3 B3
  clear n3 g3
  have n5 := XC4.out.cell 5 rfl
  have g4 : ¬ ((k + c.sets.length * 7 + 3 * c.ddt.length + 3 * c.parts.length : Nat) : Int) < 0 := by omega
  go_wp2_with fail
  refine (heldIntS_any _ _ (k + c.sets.length * 7 + 3 * c.ddt.length + 3 * c.parts.length) _ (sl_of_own OI4.out) (fun b e => (OI4.out.lt b e).2) h4 (by omega) (by omega)).mono ?_
  rintro e w5 ⟨rfl, hb⟩
  have XC5 := Lib.hid (XC4.out.below hb XC4.out.lt)
  have OD5 := Lib.hid (own_kept OD4.out (fun b e => hb.block b (OD4.out.lt b e).2))
  have OP5 := Lib.hid (own_kept OP4.out (fun b e => hb.block b (OP4.out.lt b e).2))
  have OI5 := Lib.hid (own_kept OI4.out (fun b e => hb.block b (OI4.out.lt b e).2))
  have B5 := Lib.hid (B4.out.trans (hb.mono B4.out.size))
  clear hb XC4 OD4 OP4 OI4 B4
  clear n5 g4
  have g5 : ¬ ((k + c.sets.length * 7 + 3 * c.ddt.length + 3 * c.parts.length + c.safe.length : Nat) : Int) < 0 := by omega
  go_wp2
  go_ret
  exact ⟨rfl, B5.out⟩
end Go.Proofs.YtojjenclcidnkaaGreatDoor

/-
  A store of the call's own marked: what it holds then; asked for its marks.
-/
set_option maxRecDepth 100000
namespace Go.Proofs.YtojjenclcidnkaaGreatDoor
open Go.ChangeShapes Go.WideShapes Go.ChangeAt Go.RowKit Go.Proofs.Palim

theorem DiskOwn.keptT {w w' : World} {base : Nat} {v0 v1 vl : Value} {d : DiskM} (h : DiskOwn w base v0 v1 vl d) (hb : ∀ b, DTurns v0 v1 vl b → w'.heap[b]? = w.heap[b]?) : DiskOwn w' base v0 v1 vl d :=
  ⟨own_kept h.o0 fun b e => hb b (Or.inl e), own_kept h.o1 fun b e => hb b (Or.inr (Or.inl e)), own_kept h.ol fun b e => hb b (Or.inr (Or.inr e)), h.p01, h.p0l, h.p1l⟩
theorem CoreOwn.keptT {w w' : World} {base : Nat} {vs vd vp vi : Value} {c : CoreM} (h : CoreOwn w base vs vd vp vi c) (hb : ∀ b, CTurns vs vd vp vi b → w'.heap[b]? = w.heap[b]?) : CoreOwn w' base vs vd vp vi c :=
  ⟨own_kept h.s fun b e => hb b (Or.inl e), own_kept h.d fun b e => hb b (Or.inr (Or.inl e)), own_kept h.p fun b e => hb b (Or.inr (Or.inr (Or.inl e))), own_kept h.i fun b e => hb b (Or.inr (Or.inr (Or.inr e))), h.sd, h.sp, h.si, h.dp, h.di, h.pi⟩
theorem PoolOwn.keptT {w w' : World} {base : Nat} {v : PV} {p : PoolM} (h : PoolOwn w base v p) (hb : ∀ b, PTurns v b → w'.heap[b]? = w.heap[b]?) : PoolOwn w' base v p := ⟨h.d.keptT fun b e => hb b (Or.inl e), h.c.keptT fun b e => hb b (Or.inr e), h.x⟩
/-- How many marks a disk takes, from k on. -/
def dend (k : Nat) (d : DiskM) : Nat := k + d.s0.length + d.s1.length + 3 * d.late.length
def pend (k : Nat) (p : PoolM) : Nat := cend (dend k p.disk) p.core.sets.length p.core.ddt.length p.core.parts.length p.core.safe.length
theorem pend_small {p : PoolM} (hs : PoolShort p) {k : Nat} (hk : k ≤ 50000000) : pend k p ≤ 100000000 := by
  have := hs.d.n0; have := hs.d.n1; have := hs.d.nl; have := hs.c.s; have := hs.c.d; have := hs.c.p; have := hs.c.i
  unfold pend cend dend; omega
/-- A store of the call's own that holds the marks from k on. -/
structure PoolHd (k : Nat) (w : World) (base : Nat) (v : PV) (p : PoolM) : Prop where
  d : DiskOwn w base v.v0 v.v1 v.vl (dmarks k p.disk.s0.length p.disk.s1.length p.disk.late.length)
  c : CoreHd (dend k p.disk) w base v.vs v.vd v.vp v.vi p.core.sets.length p.core.ddt.length p.core.parts.length p.core.safe.length
theorem PoolHd.below {k : Nat} {w w' : World} {base : Nat} {v : PV} {p : PoolM} (h : PoolHd k w base v p) (hb : Below w.heap.size w w') : PoolHd k w' base v p := ⟨h.d.kept fun b hl _ => hb.block b hl, h.c.kept fun b hl _ => hb.block b hl⟩
theorem PoolHd.drew {k : Nat} {w : World} {base : Nat} {v : PV} {p : PoolM} (h : PoolHd k w base v p) : PoolHd k w.drew base v p := ⟨h.d.kept fun _ _ _ => rfl, h.c.kept fun _ _ _ => rfl⟩

end Go.Proofs.YtojjenclcidnkaaGreatDoor

/-
  Stores in boxes through marks and calls: what the laws on stores have in common.
-/
set_option maxRecDepth 100000
namespace Go.Proofs.Palim
open Go Go.RowKit
section
variable {P : Program} {w : World}
theorem wpList_wanted {ops : Array Oper} {rest : List Oper} {o : Oper} {a : Act} {Q : Exit → Act → World → Prop} (hw : Region.wanted o (yielded ops a.tmps) = true)
    (h : ∀ K : Act → World → Prop, (∀ a w, wpList P ops Q rest a w → K a w) → o.wp P a w K Q) : wpList P ops Q (o :: rest) a w :=
  wpList_step fun K hK => by rw [if_pos hw]; exact h K hK
theorem wpList_load_boxG {ops : Array Oper} {rest : List Oper} {o : Oper} {a : Act} {Q : Exit → Act → World → Prop} (hw : Region.wanted o (yielded ops a.tmps) = true) {ty : TypeId} (x : Operand) (ho : o.op = .load ty x) {k b : Nat} (hA : Agg P ty k)
    (hx : a.eval x = .pointer (some ⟨b, 0, none⟩)) (cs : List Value) (hk : cs.length = k) (hB : Box w b cs)
    (h : wpList P ops Q rest (a.put o.dst (.agg cs.toArray)) w) : wpList P ops Q (o :: rest) a w :=
  wpList_wanted hw fun _ hK => wp_load_cs x ho hA hx cs hk hB.cells (hK _ _ h)
end
end Go.Proofs.Palim
namespace Go.Proofs.YtojjenclcidnkaaGreatDoor
open Go.ChangeShapes Go.WideShapes Go.ChangeAt Go.RowKit Go.Proofs.Palim

theorem PoolR.lt {w : World} {v : PV} {p : PoolM} (h : PoolR w v p) : ∀ b, PTurns v b → b < w.heap.size := by
  rintro b ((e | e | e) | (e | e | e | e))
  · exact h.d.l0 b e
  · exact h.d.l1 b e
  · exact h.d.ll b e
  · exact h.c.ls b e
  · exact h.c.ld b e
  · exact h.c.lp b e
  · exact h.c.li b e
theorem PoolR.keptT {w w' : World} {v : PV} {p : PoolM} (h : PoolR w v p) (hs : w.heap.size ≤ w'.heap.size) (hb : ∀ b, PTurns v b → w'.heap[b]? = w.heap[b]?) : PoolR w' v p :=
  ⟨⟨h.d.r0.kept fun b e => hb b (Or.inl (Or.inl e)), h.d.r1.kept fun b e => hb b (Or.inl (Or.inr (Or.inl e))), h.d.rl.kept fun b e => hb b (Or.inl (Or.inr (Or.inr e))), h.d.l0.mono hs, h.d.l1.mono hs, h.d.ll.mono hs⟩,
   ⟨h.c.s.kept fun b e => hb b (Or.inr (Or.inl e)), h.c.d.kept fun b e => hb b (Or.inr (Or.inr (Or.inl e))), h.c.p.kept fun b e => hb b (Or.inr (Or.inr (Or.inr (Or.inl e)))), h.c.i.kept fun b e => hb b (Or.inr (Or.inr (Or.inr (Or.inr e)))), h.c.ls.mono hs, h.c.ld.mono hs, h.c.lp.mono hs, h.c.li.mono hs⟩⟩
theorem PoolR.one {w : World} {v : PV} {p : PoolM} (h : PoolR w v p) : ∀ u ∈ v.cells p, u.oneCell' = true := by
  obtain ⟨v0, v1, vl, vs, vd, vp, vi⟩ := v
  obtain ⟨_, A0, c0, e0, _⟩ := h.d.r0
  obtain ⟨_, A1, c1, e1, _⟩ := h.d.r1
  obtain ⟨_, A2, c2, e2, _⟩ := h.d.rl
  obtain ⟨A3, c3, A4, c4, A5, c5, A6, c6, e3, e4, e5, e6⟩ := h.c.forms
  simp only at e0 e1 e2 e3 e4 e5 e6
  subst e0 e1 e2 e3 e4 e5 e6
  simp [Value.oneCell']
theorem PBox.put {w w' : World} {x y : Nat} {v : PV} {p : PoolM} (h : PBox w x v p) (hp : PutAt y w w') (hx : x ≠ y) (hy : ∀ b, PTurns v b → b ≠ y) : PBox w' x v p :=
  ⟨hp.box hx h.box, h.reads.keptT (Nat.le_of_eq hp.size.symm) fun b e => hp.block b (hy b e)⟩
theorem PBox.turned {S : Nat → Prop} {w w' : World} {x : Nat} {v : PV} {p : PoolM} (h : PBox w x v p) (ht : Turned S w w') (hx : ¬ S x) (hv : ∀ b, PTurns v b → ¬ S b) : PBox w' x v p :=
  ⟨h.box.turned ht hx, h.reads.keptT ht.size fun b e => ht.block b (h.reads.lt b e) (hv b e)⟩
theorem putAt_new {w w' : World} {o : Obj} (h : PutAt w.heap.size (w.alloc o) w') : Below w.heap.size w w' := h.below ((Below.refl _ w).alloc (Nat.le_refl _) _) (Nat.le_refl _)
/-- What a store that came in keeps to. -/
structure PoolFits (p : PoolM) : Prop where
  z0 : ∀ s ∈ p.disk.s0, s.size ≤ maxLen
  z1 : ∀ s ∈ p.disk.s1, s.size ≤ maxLen
  zl : ∀ x ∈ p.disk.late, x.text.size ≤ maxLen
  c : CoreFits p.core
end Go.Proofs.YtojjenclcidnkaaGreatDoor

/-
  A store that came in as an argument, opened.
-/
set_option maxRecDepth 100000
namespace Go.Proofs.YtojjenclcidnkaaGreatDoor
open Go.ChangeShapes Go.WideShapes Go.ChangeAt Go.RowKit Go.Proofs.Palim Go.Deep

section
variable {H : Type} {enc : TypeId × Value → H} {W : World}
theorem kcellsP : Tryz.prog.cellsOf 34 = 11 := by kernel_rfl
theorem ktypesP : Tryz.prog.cellTypes Tryz.prog.depth 34 = some [22, 22, 24, 3, 27, 28, 29, 4, 30, 3, 4] := by kernel_rfl
/-- A store that came in. -/
theorem pool_of {base : Nat} {v : Value} {x : DataW H} {p : List MemPlace} (ho : Value.okWide Tryz.prog W .any base 34 v) (h : DataW.Trod enc Tryz.prog W 0 (fun _ => true) true 34 v x p) :
    ∃ (u : PV) (q : PoolM), v = u.val q ∧ PoolR W u q ∧ PoolFits q := by
  simp only [Value.okWide, Tryz.underlying34] at ho
  obtain ⟨cs, rfl, hsz, hrow⟩ := ho
  rw [kcellsP] at hsz
  obtain ⟨v0, v1, vl, u0, u1, u2, u3, u4, u5, u6, ub, rfl⟩ : ∃ v0 v1 vl u0 u1 u2 u3 u4 u5 u6 ub, cs = #[v0, v1, vl, u0, u1, u2, u3, u4, u5, u6, ub] := by
    match cs, hsz with
    | ⟨[v0, v1, vl, u0, u1, u2, u3, u4, u5, u6, ub]⟩, _ => exact ⟨v0, v1, vl, u0, u1, u2, u3, u4, u5, u6, ub, rfl⟩
  obtain ⟨ts, hts, _, hok⟩ := hrow
  obtain rfl := Option.some.inj (ktypesP.symm.trans hts)
  obtain ⟨k0, e0, o0⟩ := hok 0 v0 rfl
  obtain ⟨k1, e1, o1⟩ := hok 1 v1 rfl
  obtain ⟨kl, el, ol⟩ := hok 2 vl rfl
  obtain ⟨m1, f1, p1⟩ := hok 4 u1 rfl
  obtain ⟨m2, f2, p2⟩ := hok 5 u2 rfl
  obtain ⟨m3, f3, p3⟩ := hok 6 u3 rfl
  obtain ⟨m5, f5, p5⟩ := hok 8 u5 rfl
  simp at e0 e1 el f1 f2 f3 f5
  subst e0 e1 el f1 f2 f3 f5
  obtain ⟨fuel, hf⟩ := h
  obtain ⟨yd, yc, yb, n, _, _, td, tc, tb⟩ := trod_struct3 Tryz.underlying34 hf
  simp only [cellsDisk, kcellsC, kcellsB, Value.cells, List.drop, List.take] at td tc tb
  obtain ⟨y0, y1, nd, _, _, d0, d1⟩ := trod_struct2 Tryz.underlying26 td
  simp only [cells24, cells41, List.drop, List.take] at d0 d1
  obtain ⟨ss0, ss1, hs0, hz0, hs1, hz1⟩ : ∃ ss0 ss1, Sl W 1 v0 ss0.length (scs ss0) ∧ (∀ s ∈ ss0, s.size ≤ maxLen) ∧ Sl W 1 v1 ss1.length (scs ss1) ∧ ∀ s ∈ ss1, s.size ≤ maxLen := by
    obtain ⟨xs, m, _, _, _, hlen, hel⟩ := DataW.trod_array Tryz.underlying23 d0
    match xs, hlen with
    | [a, b], _ =>
      have ha := hel 0 (by omega)
      have hb := hel 1 (by omega)
      simp only [cells23] at ha hb
      obtain ⟨ss0, hs0, hz0⟩ := strs_of (enc := enc) o0 ha
      obtain ⟨ss1, hs1, hz1⟩ := strs_of (enc := enc) o1 hb
      exact ⟨ss0, ss1, hs0, hz0, hs1, hz1⟩
  obtain ⟨ls, hls, hzl⟩ := lates_of (enc := enc) ol d1
  obtain ⟨z0, z1, z2, z3, z4, z5, z6, nc, _, t0, t1, t2, t3, t4, t5, t6⟩ := trod_struct7 Tryz.underlying32 tc
  simp only [kcellsI, kcellsB, kcellsKs, kcellsEs, kcellsPs, kcellsIs, List.drop, List.take] at t0 t1 t2 t3 t4 t5 t6
  obtain ⟨a, ha, _, wa⟩ := DataW.trod_int Tryz.underlying3 t0
  obtain ⟨sets, r1, g1⟩ := csets_of (enc := enc) p1 t1
  obtain ⟨ddt, r2, g2⟩ := ents_of (enc := enc) p2 t2
  obtain ⟨parts, r3, g3⟩ := parts_of (enc := enc) p3 t3
  obtain ⟨d, hd, _⟩ := DataW.trod_bool Tryz.underlying4 t4
  obtain ⟨safe, r5⟩ := ints_of (enc := enc) p5 t5
  obtain ⟨b, hb, _, wb⟩ := DataW.trod_int Tryz.underlying3 t6
  obtain ⟨up, hu, _⟩ := DataW.trod_bool Tryz.underlying4 tb
  simp at ha hd hb hu
  subst ha hd hb hu
  exact ⟨⟨v0, v1, vl, u1, u2, u3, u5⟩, ⟨⟨ss0, ss1, ls⟩, ⟨a, sets, ddt, parts, d, safe, b⟩, up⟩, rfl,
    ⟨⟨hs0, hs1, hls, low_of_ok Tryz.underlying22 o0, low_of_ok Tryz.underlying22 o1, low_of_ok Tryz.underlying24 ol⟩,
     ⟨r1, r2, r3, r5, low_of_ok Tryz.underlying27 p1, low_of_ok Tryz.underlying28 p2, low_of_ok Tryz.underlying29 p3, low_of_ok Tryz.underlying30 p5⟩⟩,
    ⟨hz0, hz1, fun l hl => (hzl l hl).1, ⟨bounds_i64 wa, bounds_i64 wb, g1, g2, g3⟩⟩⟩
end
end Go.Proofs.YtojjenclcidnkaaGreatDoor
