/-
  A core of the call's own: each list belongs to it, and no two lie in one block; marked.
-/
import Derived.Test.YtobjgdnmlibofaaGreatCoreV
import Derived.Test.YtobjgdnmlibofaaGreatCoreMk
set_option maxRecDepth 100000
namespace Go.Proofs.YtobjgdnmlibofaaGreat
open Go.ChangeShapes Go.WideShapes Go.ChangeAt Go.RowKit Go.Proofs.Palim

structure CoreOwn (w : World) (base : Nat) (vs vd vp vi : Value) (c : CoreM) : Prop where
  s : w.ownsRow base 89 31 vs c.sets.length (ccs c.sets)
  d : w.ownsRow base 126 3 vd c.ddt.length (ecs c.ddt)
  p : w.ownsRow base 86 3 vp c.parts.length (pcs c.parts)
  i : w.ownsRow base 3 1 vi c.safe.length (ics c.safe)
  sd : ∀ b, vs.ownBlock = some b → vd.ownBlock = some b → False
  sp : ∀ b, vs.ownBlock = some b → vp.ownBlock = some b → False
  si : ∀ b, vs.ownBlock = some b → vi.ownBlock = some b → False
  dp : ∀ b, vd.ownBlock = some b → vp.ownBlock = some b → False
  di : ∀ b, vd.ownBlock = some b → vi.ownBlock = some b → False
  pi : ∀ b, vp.ownBlock = some b → vi.ownBlock = some b → False
theorem CoreOwn.reads {w : World} {base : Nat} {vs vd vp vi : Value} {c : CoreM} (h : CoreOwn w base vs vd vp vi c) : CoreR w vs vd vp vi c :=
  ⟨sl_of_own h.s, sl_of_own h.d, sl_of_own h.p, sl_of_own h.i, low_of_own h.s, low_of_own h.d, low_of_own h.p, low_of_own h.i⟩
theorem CoreOwn.below {w w' : World} {base : Nat} {vs vd vp vi : Value} {c : CoreM} (h : CoreOwn w base vs vd vp vi c) (hb : Below w.heap.size w w') : CoreOwn w' base vs vd vp vi c :=
  ⟨own_kept h.s (fun b e => hb.block b (h.s.lt b e).2), own_kept h.d (fun b e => hb.block b (h.d.lt b e).2), own_kept h.p (fun b e => hb.block b (h.p.lt b e).2), own_kept h.i (fun b e => hb.block b (h.i.lt b e).2), h.sd, h.sp, h.si, h.dp, h.di, h.pi⟩
theorem CoreOwn.drew {w : World} {base : Nat} {vs vd vp vi : Value} {c : CoreM} (h : CoreOwn w base vs vd vp vi c) : CoreOwn w.drew base vs vd vp vi c := ⟨h.s, h.d, h.p, h.i, h.sd, h.sp, h.si, h.dp, h.di, h.pi⟩
theorem CoreOwn.base {w : World} {base base' : Nat} {vs vd vp vi : Value} {c : CoreM} (h : CoreOwn w base vs vd vp vi c) (hb : base' ≤ base) : CoreOwn w base' vs vd vp vi c :=
  ⟨own_base h.s hb, own_base h.d hb, own_base h.p hb, own_base h.i hb, h.sd, h.sp, h.si, h.dp, h.di, h.pi⟩
def NewCoreO (w : World) (c : CoreM) (e : Ending) (w' : World) : Prop :=
  ∃ vs vd vp vi, e = .returned (cv c vs vd vp vi) ∧ CoreOwn w' w.heap.size vs vd vp vi c ∧ Below w.heap.size w w'
/-- The blocks of a core's lists. -/
def CTurns (vs vd vp vi : Value) (b : Nat) : Prop := vs.ownBlock = some b ∨ vd.ownBlock = some b ∨ vp.ownBlock = some b ∨ vi.ownBlock = some b

set_option maxHeartbeats 2000000 in
theorem toCoreO_any (vs vd vp vi : Value) (c : CoreM) (w : World) (h : CoreR w vs vd vp vi c) (hs : CoreShort c) :
    Calls Tryz.prog 28 #[cv c vs vd vp vi] w (NewCoreO w c) := by
  obtain ⟨b1, b2, b3, hsz, hB⟩ := box3 w #[.int .i64 c.txg, vs, vd, vp, .bool c.dirty, vi, .int .i64 c.logn] #[.int .i64 0, .slice none 0 0, .slice none 0 0, .slice none 0 0, .bool false, .slice none 0 0, .int .i64 0] #[.int .i64 0, .slice none 0 0, .slice none 0 0, .slice none 0 0, .bool false, .slice none 0 0, .int .i64 0] 32 44 44
  have X1 := Lib.hid b1
  have X2 := Lib.hid b2
  have X3 := Lib.hid b3
  have B0 := Lib.hid hB
  have HR := Lib.hid h
  have HS := Lib.hid hs
  obtain ⟨A0, k0, A1, k1, A2, k2, A3, k3, rfl, rfl, rfl, rfl⟩ := h.forms
  clear b1 b2 b3 hB hsz h hs
  go_enter Tryz.func28, Tryz.ntmps28
  go_upto_region 2 with fail
  generalize ((w.alloc (.cells #[.int .i64 c.txg, .slice A0 c.sets.length k0, .slice A1 c.ddt.length k1, .slice A2 c.parts.length k2, .bool c.dirty, .slice A3 c.safe.length k3, .int .i64 c.logn] 32)).alloc (.cells #[.int .i64 0, .slice none 0 0, .slice none 0 0, .slice none 0 0, .bool false, .slice none 0 0, .int .i64 0] 44)).alloc (.cells #[.int .i64 0, .slice none 0 0, .slice none 0 0, .slice none 0 0, .bool false, .slice none 0 0, .int .i64 0] 44) = W at X1 X2 X3 B0 ⊢
  have n0 := X1.out.cell 0 rfl
  have c0 := X3.out.cell 0 rfl
  have f0 := X3.out.open_ 0
  have Y1 := Lib.hid (X1.out.other (p := ⟨w.heap.size + 1 + 1, 0, none⟩) (by simp; omega) (.int .i64 c.txg))
  have Y2 := Lib.hid (X2.out.other (p := ⟨w.heap.size + 1 + 1, 0, none⟩) (by simp) (.int .i64 c.txg))
  have Y3 := Lib.hid (show Box (W.setCell ⟨w.heap.size + 1 + 1, 0, none⟩ (.int .i64 c.txg)) (w.heap.size + 1 + 1) [.int .i64 c.txg, .slice none 0 0, .slice none 0 0, .slice none 0 0, .bool false, .slice none 0 0, .int .i64 0] from X3.out.set 0 (.int .i64 c.txg))
  have B1 := Lib.hid (B0.out.setCell (p := ⟨w.heap.size + 1 + 1, 0, none⟩) (by simp; omega) (.int .i64 c.txg))
  clear X1 X2 X3 B0
  go_upto_region 3 with fail
  generalize W.setCell ⟨w.heap.size + 1 + 1, 0, none⟩ (.int .i64 c.txg) = W0 at Y1 Y2 Y3 B1 ⊢
  clear c0 f0 n0
  have X1 := Y1
  have X2 := Y2
  have X3 := Y3
  have B0 := B1
  clear Y1 Y2 Y3 B1
  have n1 := X1.out.cell 1 rfl
  have hl1 : w.heap.size + 1 + 1 < W0.heap.size := X3.out.lt
  go_wp2_with fail
  refine (toCoreSetS_any _ c.sets _ (HR.out.s.below B0.out (fun b e => HR.out.ls b e)) (fun b e => Nat.lt_of_lt_of_le (HR.out.ls b e) B0.out.size) HS.out.s).mono ?_
  rintro e wc1 ⟨us, rfl, hown, hb⟩
  have O1 := Lib.hid hown
  obtain ⟨_, E1, d1, rfl, _, _, _⟩ := sl_of_own hown
  have Y1 := Lib.hid (X1.out.below hb X1.out.lt)
  have Y2 := Lib.hid (X2.out.below hb X2.out.lt)
  have Y3 := Lib.hid (X3.out.below hb X3.out.lt)
  have B1 := Lib.hid (B0.out.trans (hb.mono B0.out.size))
  clear hb hown X1 X2 X3 B0 n1
  have X1 := Y1
  have X2 := Y2
  have X3 := Y3
  have B0 := B1
  clear Y1 Y2 Y3 B1
  have c1 := X3.out.cell 1 rfl
  have f1 := X3.out.open_ 1
  have Y1 := Lib.hid (X1.out.other (p := ⟨w.heap.size + 1 + 1, 1, none⟩) (by simp; omega) (.slice E1 c.sets.length d1))
  have Y2 := Lib.hid (X2.out.other (p := ⟨w.heap.size + 1 + 1, 1, none⟩) (by simp) (.slice E1 c.sets.length d1))
  have Y3 := Lib.hid (show Box (wc1.setCell ⟨w.heap.size + 1 + 1, 1, none⟩ (.slice E1 c.sets.length d1)) (w.heap.size + 1 + 1) [.int .i64 c.txg, .slice E1 c.sets.length d1, .slice none 0 0, .slice none 0 0, .bool false, .slice none 0 0, .int .i64 0] from X3.out.set 1 (.slice E1 c.sets.length d1))
  have B1 := Lib.hid (B0.out.setCell (p := ⟨w.heap.size + 1 + 1, 1, none⟩) (by simp; omega) (.slice E1 c.sets.length d1))
  clear X1 X2 X3 B0
  have O1n := Lib.hid (own_kept O1.out (w' := wc1.setCell ⟨w.heap.size + 1 + 1, 1, none⟩ (.slice E1 c.sets.length d1)) (fun b e => Below.heap_setCell _ _ _ _ (by have := (O1.out.lt b e).1; simp; omega)))
  clear O1
  go_upto_region 4 with fail
  generalize wc1.setCell ⟨w.heap.size + 1 + 1, 1, none⟩ (.slice E1 c.sets.length d1) = W1 at Y1 Y2 Y3 B1 O1n ⊢
  clear c1 f1
  have O1 := O1n
  clear O1n
  have X1 := Y1
  have X2 := Y2
  have X3 := Y3
  have B0 := B1
  clear Y1 Y2 Y3 B1
  have n2 := X1.out.cell 2 rfl
  have hl2 : w.heap.size + 1 + 1 < W1.heap.size := X3.out.lt
  have S12 := Lib.hid (fun b (e : (Value.slice E1 c.sets.length d1).ownBlock = some b) => (O1.out.lt b e).2)
  go_wp2_with fail
  refine (toDdtEntryS_any _ c.ddt _ (HR.out.d.below B0.out (fun b e => HR.out.ld b e)) (fun b e => Nat.lt_of_lt_of_le (HR.out.ld b e) B0.out.size) HS.out.d).mono ?_
  rintro e wc2 ⟨ud, rfl, hown, hb⟩
  have O2 := Lib.hid hown
  obtain ⟨_, E2, d2, rfl, _, _, _⟩ := sl_of_own hown
  have Y1 := Lib.hid (X1.out.below hb X1.out.lt)
  have Y2 := Lib.hid (X2.out.below hb X2.out.lt)
  have Y3 := Lib.hid (X3.out.below hb X3.out.lt)
  have B1 := Lib.hid (B0.out.trans (hb.mono B0.out.size))
  have O1n := Lib.hid (own_kept O1.out (w' := wc2) (fun b e => hb.block b (O1.out.lt b e).2))
  clear O1
  clear hb hown X1 X2 X3 B0 n2
  have X1 := Y1
  have X2 := Y2
  have X3 := Y3
  have B0 := B1
  clear Y1 Y2 Y3 B1
  have O1 := O1n
  clear O1n
  have c2 := X3.out.cell 2 rfl
  have f2 := X3.out.open_ 2
  have Y1 := Lib.hid (X1.out.other (p := ⟨w.heap.size + 1 + 1, 2, none⟩) (by simp; omega) (.slice E2 c.ddt.length d2))
  have Y2 := Lib.hid (X2.out.other (p := ⟨w.heap.size + 1 + 1, 2, none⟩) (by simp) (.slice E2 c.ddt.length d2))
  have Y3 := Lib.hid (show Box (wc2.setCell ⟨w.heap.size + 1 + 1, 2, none⟩ (.slice E2 c.ddt.length d2)) (w.heap.size + 1 + 1) [.int .i64 c.txg, .slice E1 c.sets.length d1, .slice E2 c.ddt.length d2, .slice none 0 0, .bool false, .slice none 0 0, .int .i64 0] from X3.out.set 2 (.slice E2 c.ddt.length d2))
  have B1 := Lib.hid (B0.out.setCell (p := ⟨w.heap.size + 1 + 1, 2, none⟩) (by simp; omega) (.slice E2 c.ddt.length d2))
  clear X1 X2 X3 B0
  have O1n := Lib.hid (own_kept O1.out (w' := wc2.setCell ⟨w.heap.size + 1 + 1, 2, none⟩ (.slice E2 c.ddt.length d2)) (fun b e => Below.heap_setCell _ _ _ _ (by have := (O1.out.lt b e).1; simp; omega)))
  clear O1
  have O2n := Lib.hid (own_kept O2.out (w' := wc2.setCell ⟨w.heap.size + 1 + 1, 2, none⟩ (.slice E2 c.ddt.length d2)) (fun b e => Below.heap_setCell _ _ _ _ (by have := (O2.out.lt b e).1; simp; omega)))
  clear O2
  go_upto_region 5 with fail
  generalize wc2.setCell ⟨w.heap.size + 1 + 1, 2, none⟩ (.slice E2 c.ddt.length d2) = W2 at Y1 Y2 Y3 B1 O1n O2n ⊢
  clear c2 f2
  have O1 := O1n
  clear O1n
  have O2 := O2n
  clear O2n
  have X1 := Y1
  have X2 := Y2
  have X3 := Y3
  have B0 := B1
  clear Y1 Y2 Y3 B1
  have n3 := X1.out.cell 3 rfl
  have hl3 : w.heap.size + 1 + 1 < W2.heap.size := X3.out.lt
  have S13 := Lib.hid (fun b (e : (Value.slice E1 c.sets.length d1).ownBlock = some b) => (O1.out.lt b e).2)
  have S23 := Lib.hid (fun b (e : (Value.slice E2 c.ddt.length d2).ownBlock = some b) => (O2.out.lt b e).2)
  go_wp2_with fail
  refine (toPtrS_any _ c.parts _ (HR.out.p.below B0.out (fun b e => HR.out.lp b e)) (fun b e => Nat.lt_of_lt_of_le (HR.out.lp b e) B0.out.size) HS.out.p).mono ?_
  rintro e wc3 ⟨up, rfl, hown, hb⟩
  have O3 := Lib.hid hown
  obtain ⟨_, E3, d3, rfl, _, _, _⟩ := sl_of_own hown
  have Y1 := Lib.hid (X1.out.below hb X1.out.lt)
  have Y2 := Lib.hid (X2.out.below hb X2.out.lt)
  have Y3 := Lib.hid (X3.out.below hb X3.out.lt)
  have B1 := Lib.hid (B0.out.trans (hb.mono B0.out.size))
  have O1n := Lib.hid (own_kept O1.out (w' := wc3) (fun b e => hb.block b (O1.out.lt b e).2))
  clear O1
  have O2n := Lib.hid (own_kept O2.out (w' := wc3) (fun b e => hb.block b (O2.out.lt b e).2))
  clear O2
  clear hb hown X1 X2 X3 B0 n3
  have X1 := Y1
  have X2 := Y2
  have X3 := Y3
  have B0 := B1
  clear Y1 Y2 Y3 B1
  have O1 := O1n
  clear O1n
  have O2 := O2n
  clear O2n
  have c3 := X3.out.cell 3 rfl
  have f3 := X3.out.open_ 3
  have Y1 := Lib.hid (X1.out.other (p := ⟨w.heap.size + 1 + 1, 3, none⟩) (by simp; omega) (.slice E3 c.parts.length d3))
  have Y2 := Lib.hid (X2.out.other (p := ⟨w.heap.size + 1 + 1, 3, none⟩) (by simp) (.slice E3 c.parts.length d3))
  have Y3 := Lib.hid (show Box (wc3.setCell ⟨w.heap.size + 1 + 1, 3, none⟩ (.slice E3 c.parts.length d3)) (w.heap.size + 1 + 1) [.int .i64 c.txg, .slice E1 c.sets.length d1, .slice E2 c.ddt.length d2, .slice E3 c.parts.length d3, .bool false, .slice none 0 0, .int .i64 0] from X3.out.set 3 (.slice E3 c.parts.length d3))
  have B1 := Lib.hid (B0.out.setCell (p := ⟨w.heap.size + 1 + 1, 3, none⟩) (by simp; omega) (.slice E3 c.parts.length d3))
  clear X1 X2 X3 B0
  have O1n := Lib.hid (own_kept O1.out (w' := wc3.setCell ⟨w.heap.size + 1 + 1, 3, none⟩ (.slice E3 c.parts.length d3)) (fun b e => Below.heap_setCell _ _ _ _ (by have := (O1.out.lt b e).1; simp; omega)))
  clear O1
  have O2n := Lib.hid (own_kept O2.out (w' := wc3.setCell ⟨w.heap.size + 1 + 1, 3, none⟩ (.slice E3 c.parts.length d3)) (fun b e => Below.heap_setCell _ _ _ _ (by have := (O2.out.lt b e).1; simp; omega)))
  clear O2
  have O3n := Lib.hid (own_kept O3.out (w' := wc3.setCell ⟨w.heap.size + 1 + 1, 3, none⟩ (.slice E3 c.parts.length d3)) (fun b e => Below.heap_setCell _ _ _ _ (by have := (O3.out.lt b e).1; simp; omega)))
  clear O3
  go_upto_region 6 with fail
  generalize wc3.setCell ⟨w.heap.size + 1 + 1, 3, none⟩ (.slice E3 c.parts.length d3) = W3 at Y1 Y2 Y3 B1 O1n O2n O3n ⊢
  clear c3 f3
  have O1 := O1n
  clear O1n
  have O2 := O2n
  clear O2n
  have O3 := O3n
  clear O3n
  have X1 := Y1
  have X2 := Y2
  have X3 := Y3
  have B0 := B1
  clear Y1 Y2 Y3 B1
  have n4 := X1.out.cell 4 rfl
  have c4 := X3.out.cell 4 rfl
  have f4 := X3.out.open_ 4
  have Y1 := Lib.hid (X1.out.other (p := ⟨w.heap.size + 1 + 1, 4, none⟩) (by simp; omega) (.bool c.dirty))
  have Y2 := Lib.hid (X2.out.other (p := ⟨w.heap.size + 1 + 1, 4, none⟩) (by simp) (.bool c.dirty))
  have Y3 := Lib.hid (show Box (W3.setCell ⟨w.heap.size + 1 + 1, 4, none⟩ (.bool c.dirty)) (w.heap.size + 1 + 1) [.int .i64 c.txg, .slice E1 c.sets.length d1, .slice E2 c.ddt.length d2, .slice E3 c.parts.length d3, .bool c.dirty, .slice none 0 0, .int .i64 0] from X3.out.set 4 (.bool c.dirty))
  have B1 := Lib.hid (B0.out.setCell (p := ⟨w.heap.size + 1 + 1, 4, none⟩) (by simp; omega) (.bool c.dirty))
  clear X1 X2 X3 B0
  have O1n := Lib.hid (own_kept O1.out (w' := W3.setCell ⟨w.heap.size + 1 + 1, 4, none⟩ (.bool c.dirty)) (fun b e => Below.heap_setCell _ _ _ _ (by have := (O1.out.lt b e).1; simp; omega)))
  clear O1
  have O2n := Lib.hid (own_kept O2.out (w' := W3.setCell ⟨w.heap.size + 1 + 1, 4, none⟩ (.bool c.dirty)) (fun b e => Below.heap_setCell _ _ _ _ (by have := (O2.out.lt b e).1; simp; omega)))
  clear O2
  have O3n := Lib.hid (own_kept O3.out (w' := W3.setCell ⟨w.heap.size + 1 + 1, 4, none⟩ (.bool c.dirty)) (fun b e => Below.heap_setCell _ _ _ _ (by have := (O3.out.lt b e).1; simp; omega)))
  clear O3
  go_upto_region 7 with fail
  generalize W3.setCell ⟨w.heap.size + 1 + 1, 4, none⟩ (.bool c.dirty) = W4 at Y1 Y2 Y3 B1 O1n O2n O3n ⊢
  clear c4 f4
  have O1 := O1n
  clear O1n
  have O2 := O2n
  clear O2n
  have O3 := O3n
  clear O3n
  have X1 := Y1
  have X2 := Y2
  have X3 := Y3
  have B0 := B1
  clear Y1 Y2 Y3 B1
  clear n4
  have n5 := X1.out.cell 5 rfl
  have hl5 : w.heap.size + 1 + 1 < W4.heap.size := X3.out.lt
  have S15 := Lib.hid (fun b (e : (Value.slice E1 c.sets.length d1).ownBlock = some b) => (O1.out.lt b e).2)
  have S25 := Lib.hid (fun b (e : (Value.slice E2 c.ddt.length d2).ownBlock = some b) => (O2.out.lt b e).2)
  have S35 := Lib.hid (fun b (e : (Value.slice E3 c.parts.length d3).ownBlock = some b) => (O3.out.lt b e).2)
  go_wp2_with fail
  refine (toIntS_b _ c.safe _ (HR.out.i.below B0.out (fun b e => HR.out.li b e)) HS.out.i).mono ?_
  rintro e wc5 ⟨ui, rfl, hown, hb⟩
  have O5 := Lib.hid hown
  obtain ⟨_, E5, d5, rfl, _, _, _⟩ := sl_of_own hown
  have Y1 := Lib.hid (X1.out.below hb X1.out.lt)
  have Y2 := Lib.hid (X2.out.below hb X2.out.lt)
  have Y3 := Lib.hid (X3.out.below hb X3.out.lt)
  have B1 := Lib.hid (B0.out.trans (hb.mono B0.out.size))
  have O1n := Lib.hid (own_kept O1.out (w' := wc5) (fun b e => hb.block b (O1.out.lt b e).2))
  clear O1
  have O2n := Lib.hid (own_kept O2.out (w' := wc5) (fun b e => hb.block b (O2.out.lt b e).2))
  clear O2
  have O3n := Lib.hid (own_kept O3.out (w' := wc5) (fun b e => hb.block b (O3.out.lt b e).2))
  clear O3
  clear hb hown X1 X2 X3 B0 n5
  have X1 := Y1
  have X2 := Y2
  have X3 := Y3
  have B0 := B1
  clear Y1 Y2 Y3 B1
  have O1 := O1n
  clear O1n
  have O2 := O2n
  clear O2n
  have O3 := O3n
  clear O3n
  have c5 := X3.out.cell 5 rfl
  have f5 := X3.out.open_ 5
  have Y1 := Lib.hid (X1.out.other (p := ⟨w.heap.size + 1 + 1, 5, none⟩) (by simp; omega) (.slice E5 c.safe.length d5))
  have Y2 := Lib.hid (X2.out.other (p := ⟨w.heap.size + 1 + 1, 5, none⟩) (by simp) (.slice E5 c.safe.length d5))
  have Y3 := Lib.hid (show Box (wc5.setCell ⟨w.heap.size + 1 + 1, 5, none⟩ (.slice E5 c.safe.length d5)) (w.heap.size + 1 + 1) [.int .i64 c.txg, .slice E1 c.sets.length d1, .slice E2 c.ddt.length d2, .slice E3 c.parts.length d3, .bool c.dirty, .slice E5 c.safe.length d5, .int .i64 0] from X3.out.set 5 (.slice E5 c.safe.length d5))
  have B1 := Lib.hid (B0.out.setCell (p := ⟨w.heap.size + 1 + 1, 5, none⟩) (by simp; omega) (.slice E5 c.safe.length d5))
  clear X1 X2 X3 B0
  have O1n := Lib.hid (own_kept O1.out (w' := wc5.setCell ⟨w.heap.size + 1 + 1, 5, none⟩ (.slice E5 c.safe.length d5)) (fun b e => Below.heap_setCell _ _ _ _ (by have := (O1.out.lt b e).1; simp; omega)))
  clear O1
  have O2n := Lib.hid (own_kept O2.out (w' := wc5.setCell ⟨w.heap.size + 1 + 1, 5, none⟩ (.slice E5 c.safe.length d5)) (fun b e => Below.heap_setCell _ _ _ _ (by have := (O2.out.lt b e).1; simp; omega)))
  clear O2
  have O3n := Lib.hid (own_kept O3.out (w' := wc5.setCell ⟨w.heap.size + 1 + 1, 5, none⟩ (.slice E5 c.safe.length d5)) (fun b e => Below.heap_setCell _ _ _ _ (by have := (O3.out.lt b e).1; simp; omega)))
  clear O3
  have O5n := Lib.hid (own_kept O5.out (w' := wc5.setCell ⟨w.heap.size + 1 + 1, 5, none⟩ (.slice E5 c.safe.length d5)) (fun b e => Below.heap_setCell _ _ _ _ (by have := (O5.out.lt b e).1; simp; omega)))
  clear O5
  go_upto_region 8 with fail
  generalize wc5.setCell ⟨w.heap.size + 1 + 1, 5, none⟩ (.slice E5 c.safe.length d5) = W5 at Y1 Y2 Y3 B1 O1n O2n O3n O5n ⊢
  clear c5 f5
  have O1 := O1n
  clear O1n
  have O2 := O2n
  clear O2n
  have O3 := O3n
  clear O3n
  have O5 := O5n
  clear O5n
  have X1 := Y1
  have X2 := Y2
  have X3 := Y3
  have B0 := B1
  clear Y1 Y2 Y3 B1
  have n6 := X1.out.cell 6 rfl
  have c6 := X3.out.cell 6 rfl
  have f6 := X3.out.open_ 6
  have Y1 := Lib.hid (X1.out.other (p := ⟨w.heap.size + 1 + 1, 6, none⟩) (by simp; omega) (.int .i64 c.logn))
  have Y2 := Lib.hid (X2.out.other (p := ⟨w.heap.size + 1 + 1, 6, none⟩) (by simp) (.int .i64 c.logn))
  have Y3 := Lib.hid (show Box (W5.setCell ⟨w.heap.size + 1 + 1, 6, none⟩ (.int .i64 c.logn)) (w.heap.size + 1 + 1) [.int .i64 c.txg, .slice E1 c.sets.length d1, .slice E2 c.ddt.length d2, .slice E3 c.parts.length d3, .bool c.dirty, .slice E5 c.safe.length d5, .int .i64 c.logn] from X3.out.set 6 (.int .i64 c.logn))
  have B1 := Lib.hid (B0.out.setCell (p := ⟨w.heap.size + 1 + 1, 6, none⟩) (by simp; omega) (.int .i64 c.logn))
  clear X1 X2 X3 B0
  have O1n := Lib.hid (own_kept O1.out (w' := W5.setCell ⟨w.heap.size + 1 + 1, 6, none⟩ (.int .i64 c.logn)) (fun b e => Below.heap_setCell _ _ _ _ (by have := (O1.out.lt b e).1; simp; omega)))
  clear O1
  have O2n := Lib.hid (own_kept O2.out (w' := W5.setCell ⟨w.heap.size + 1 + 1, 6, none⟩ (.int .i64 c.logn)) (fun b e => Below.heap_setCell _ _ _ _ (by have := (O2.out.lt b e).1; simp; omega)))
  clear O2
  have O3n := Lib.hid (own_kept O3.out (w' := W5.setCell ⟨w.heap.size + 1 + 1, 6, none⟩ (.int .i64 c.logn)) (fun b e => Below.heap_setCell _ _ _ _ (by have := (O3.out.lt b e).1; simp; omega)))
  clear O3
  have O5n := Lib.hid (own_kept O5.out (w' := W5.setCell ⟨w.heap.size + 1 + 1, 6, none⟩ (.int .i64 c.logn)) (fun b e => Below.heap_setCell _ _ _ _ (by have := (O5.out.lt b e).1; simp; omega)))
  clear O5
  go_upto_region 9 with fail
  generalize W5.setCell ⟨w.heap.size + 1 + 1, 6, none⟩ (.int .i64 c.logn) = W6 at Y1 Y2 Y3 B1 O1n O2n O3n O5n ⊢
  clear c6 f6
  have O1 := O1n
  clear O1n
  have O2 := O2n
  clear O2n
  have O3 := O3n
  clear O3n
  have O5 := O5n
  clear O5n
  have X1 := Y1
  have X2 := Y2
  have X3 := Y3
  have B0 := B1
  clear Y1 Y2 Y3 B1
  clear n6
  have HPF := Lib.hid (Box.putAll X2.out [.int .i64 c.txg, .slice E1 c.sets.length d1, .slice E2 c.ddt.length d2, .slice E3 c.parts.length d3, .bool c.dirty, .slice E5 c.safe.length d5, .int .i64 c.logn] rfl)
  have HBF := Lib.hid (putC_below B0.out (w.heap.size + 1) 0 (by omega) [.int .i64 c.txg, .slice E1 c.sets.length d1, .slice E2 c.ddt.length d2, .slice E3 c.parts.length d3, .bool c.dirty, .slice E5 c.safe.length d5, .int .i64 c.logn])
  have Q1 := Lib.hid (own_kept O1.out (w' := putC W6 (w.heap.size + 1) 0 [.int .i64 c.txg, .slice E1 c.sets.length d1, .slice E2 c.ddt.length d2, .slice E3 c.parts.length d3, .bool c.dirty, .slice E5 c.safe.length d5, .int .i64 c.logn]) (fun b e => putC_heap _ _ _ _ _ (by have := (O1.out.lt b e).1; omega)))
  have Q2 := Lib.hid (own_kept O2.out (w' := putC W6 (w.heap.size + 1) 0 [.int .i64 c.txg, .slice E1 c.sets.length d1, .slice E2 c.ddt.length d2, .slice E3 c.parts.length d3, .bool c.dirty, .slice E5 c.safe.length d5, .int .i64 c.logn]) (fun b e => putC_heap _ _ _ _ _ (by have := (O2.out.lt b e).1; omega)))
  have Q3 := Lib.hid (own_kept O3.out (w' := putC W6 (w.heap.size + 1) 0 [.int .i64 c.txg, .slice E1 c.sets.length d1, .slice E2 c.ddt.length d2, .slice E3 c.parts.length d3, .bool c.dirty, .slice E5 c.safe.length d5, .int .i64 c.logn]) (fun b e => putC_heap _ _ _ _ _ (by have := (O3.out.lt b e).1; omega)))
  have Q5 := Lib.hid (own_kept O5.out (w' := putC W6 (w.heap.size + 1) 0 [.int .i64 c.txg, .slice E1 c.sets.length d1, .slice E2 c.ddt.length d2, .slice E3 c.parts.length d3, .bool c.dirty, .slice E5 c.safe.length d5, .int .i64 c.logn]) (fun b e => putC_heap _ _ _ _ _ (by have := (O5.out.lt b e).1; omega)))
  go_wp2_with (first | (refine wpList_load_box rfl _ rfl aggCore rfl [.int .i64 c.txg, .slice E1 c.sets.length d1, .slice E2 c.ddt.length d2, .slice E3 c.parts.length d3, .bool c.dirty, .slice E5 c.safe.length d5, .int .i64 c.logn] rfl X3.out ?_) | (refine wpList_store_box rfl _ _ rfl rfl aggCore rfl [.int .i64 c.txg, .slice E1 c.sets.length d1, .slice E2 c.ddt.length d2, .slice E3 c.parts.length d3, .bool c.dirty, .slice E5 c.safe.length d5, .int .i64 c.logn] rfl rfl (by simp [Value.oneCell']) _ X2.out rfl ?_; generalize putC W6 (w.heap.size + 1) 0 [.int .i64 c.txg, .slice E1 c.sets.length d1, .slice E2 c.ddt.length d2, .slice E3 c.parts.length d3, .bool c.dirty, .slice E5 c.safe.length d5, .int .i64 c.logn] = WF at HPF HBF Q1 Q2 Q3 Q5 ⊢))
  refine bodyPost_ret (results_box rfl _ (w.heap.size + 1) [.int .i64 c.txg, .slice E1 c.sets.length d1, .slice E2 c.ddt.length d2, .slice E3 c.parts.length d3, .bool c.dirty, .slice E5 c.safe.length d5, .int .i64 c.logn] aggCore rfl rfl HPF.out) rfl ⟨_, _, _, _, rfl, ⟨own_base Q1.out (by omega), own_base Q2.out (by omega), own_base Q3.out (by omega), own_base Q5.out (by omega),
    fun b e1 e2 => by have := S12.out b e1; have := (Q2.out.lt b e2).1; omega, fun b e1 e2 => by have := S13.out b e1; have := (Q3.out.lt b e2).1; omega, fun b e1 e2 => by have := S15.out b e1; have := (Q5.out.lt b e2).1; omega,
    fun b e1 e2 => by have := S23.out b e1; have := (Q3.out.lt b e2).1; omega, fun b e1 e2 => by have := S25.out b e1; have := (Q5.out.lt b e2).1; omega, fun b e1 e2 => by have := S35.out b e1; have := (Q5.out.lt b e2).1; omega⟩, HBF.out⟩

set_option maxHeartbeats 2000000 in
theorem markCore_any (vs vd vp vi : Value) (c : CoreM) (k base : Nat) (w : World) (h : CoreOwn w base vs vd vp vi c) (hs : CoreShort c) (hk0 : 1 ≤ k) (hk1 : k ≤ 50000000) :
    Calls Tryz.prog 37 #[cv c vs vd vp vi, .int .i64 (k : Int)] w fun e w' => e = .returned (.int .i64 ((k + c.sets.length * 7 + 3 * c.ddt.length + 3 * c.parts.length + c.safe.length : Nat) : Int)) ∧ Turned (CTurns vs vd vp vi) w w' := by
  have HO := Lib.hid h
  have HS := Lib.hid hs
  have h1 := hs.s
  have h2 := hs.d
  have h3 := hs.p
  have h4 := hs.i
  obtain ⟨A0, k0, A1, k1, A2, k2, A3, k3, rfl, rfl, rfl, rfl⟩ := h.reads.forms
  have hn : Below w.heap.size w (w.alloc (.cells #[.int .i64 c.txg, .slice A0 c.sets.length k0, .slice A1 c.ddt.length k1, .slice A2 c.parts.length k2, .bool c.dirty, .slice A3 c.safe.length k3, .int .i64 c.logn] 44)) := (Below.refl _ w).alloc (Nat.le_refl _) _
  have XC := Lib.hid (show Box _ w.heap.size [.int .i64 c.txg, .slice A0 c.sets.length k0, .slice A1 c.ddt.length k1, .slice A2 c.parts.length k2, .bool c.dirty, .slice A3 c.safe.length k3, .int .i64 c.logn] from box_new w #[.int .i64 c.txg, .slice A0 c.sets.length k0, .slice A1 c.ddt.length k1, .slice A2 c.parts.length k2, .bool c.dirty, .slice A3 c.safe.length k3, .int .i64 c.logn] 44)
  have HO1 := Lib.hid (HO.out.below hn)
  have HT1 := Lib.hid (turned_of_below (S := CTurns (.slice A0 c.sets.length k0) (.slice A1 c.ddt.length k1) (.slice A2 c.parts.length k2) (.slice A3 c.safe.length k3)) hn)
  have HN := Lib.hid (show ∀ b, CTurns (.slice A0 c.sets.length k0) (.slice A1 c.ddt.length k1) (.slice A2 c.parts.length k2) (.slice A3 c.safe.length k3) b → b ≠ w.heap.size from fun b e => by
    rcases e with e | e | e | e
    · have := (HO.out.s.lt b e).2; omega
    · have := (HO.out.d.lt b e).2; omega
    · have := (HO.out.p.lt b e).2; omega
    · have := (HO.out.i.lt b e).2; omega)
  clear h hs hn HO
  go_enter Tryz.func37, Tryz.ntmps37
  go_upto_region 1 with fail
  obtain ⟨W0, HWE⟩ : ∃ W0, w.alloc (.cells #[.int .i64 c.txg, .slice A0 c.sets.length k0, .slice A1 c.ddt.length k1, .slice A2 c.parts.length k2, .bool c.dirty, .slice A3 c.safe.length k3, .int .i64 c.logn] 44) = W0 := ⟨_, rfl⟩
  rw [HWE] at XC HO1 HT1 ⊢
  clear HWE
  have n1 := XC.out.cell 1 rfl
  go_wp2_with fail
  refine (markCoreSetS_any _ _ k base _ _ HO1.out.s h1 hk0 (by omega)).mono ?_
  rintro e w2 ⟨rfl, -, ht⟩
  have XC2 := Lib.hid (XC.out.kept (ht.block _ XC.out.lt (fun e => HN.out _ (Or.inl e) rfl)))
  have HT2 := Lib.hid (HT1.out.trans (ht.mono (fun b _ e => Or.inl e)))
  have OD2 := Lib.hid (own_kept HO1.out.d (w' := w2) (fun b e => ht.block b (HO1.out.d.lt b e).2 (fun e' => HO1.out.sd b e' e)))
  have OP2 := Lib.hid (own_kept HO1.out.p (w' := w2) (fun b e => ht.block b (HO1.out.p.lt b e).2 (fun e' => HO1.out.sp b e' e)))
  have OI2 := Lib.hid (own_kept HO1.out.i (w' := w2) (fun b e => ht.block b (HO1.out.i.lt b e).2 (fun e' => HO1.out.si b e' e)))
  clear n1 XC HT1 ht
  have n2 := XC2.out.cell 2 rfl
  go_wp2_with fail
  refine (markDdtEntryS_any _ _ (k + c.sets.length * 7) base _ _ OD2.out h2 (by omega) (by omega)).mono ?_
  rintro e w3 ⟨rfl, -, ht⟩
  have XC3 := Lib.hid (XC2.out.kept (ht.block _ XC2.out.lt (fun e => HN.out _ (Or.inr (Or.inl e)) rfl)))
  have HT3 := Lib.hid (HT2.out.trans (ht.mono (fun b _ e => Or.inr (Or.inl e))))
  have OP3 := Lib.hid (own_kept OP2.out (w' := w3) (fun b e => ht.block b (OP2.out.lt b e).2 (fun e' => HO1.out.dp b e' e)))
  have OI3 := Lib.hid (own_kept OI2.out (w' := w3) (fun b e => ht.block b (OI2.out.lt b e).2 (fun e' => HO1.out.di b e' e)))
  clear n2 XC2 HT2 OD2 OP2 OI2 ht
  have n3 := XC3.out.cell 3 rfl
  go_wp2_with fail
  refine (markPtrS_any _ _ (k + c.sets.length * 7 + 3 * c.ddt.length) base _ _ OP3.out h3 (by omega) (by omega)).mono ?_
  rintro e w4 ⟨rfl, -, ht⟩
  have XC4 := Lib.hid (XC3.out.kept (ht.block _ XC3.out.lt (fun e => HN.out _ (Or.inr (Or.inr (Or.inl e))) rfl)))
  have HT4 := Lib.hid (HT3.out.trans (ht.mono (fun b _ e => Or.inr (Or.inr (Or.inl e)))))
  have OI4 := Lib.hid (own_kept OI3.out (w' := w4) (fun b e => ht.block b (OI3.out.lt b e).2 (fun e' => HO1.out.pi b e' e)))
  clear n3 XC3 HT3 OP3 OI3 ht
  have n5 := XC4.out.cell 5 rfl
  go_wp2_with fail
  refine (markIntS_any _ _ (k + c.sets.length * 7 + 3 * c.ddt.length + 3 * c.parts.length) base _ _ OI4.out h4 (by omega) (by omega)).mono ?_
  rintro e w5 ⟨rfl, -, ht⟩
  have HT5 := Lib.hid (HT4.out.trans (ht.mono (fun b _ e => Or.inr (Or.inr (Or.inr e)))))
  clear n5 XC4 HT4 OI4 ht
  go_wp2
  go_ret
  exact ⟨rfl, HT5.out⟩
end Go.Proofs.YtobjgdnmlibofaaGreat
