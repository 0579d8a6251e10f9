/-
  spec's DrawDiskWrite: a disk, a sector and a text are drawn (hD: what l2Disk hands back).
-/
import Derived.Test.YtfcfgdpelbljnaaGreatDoorDrawDisk
import Derived.Test.YtfcfgdpelbljnaaGreatDoorImDiskOpen
import Derived.Deep.CutRange
import Derived.Deep.RegionHeld3
set_option maxRecDepth 100000
namespace Go.Proofs.YtfcfgdpelbljnaaGreatDoor
open Go.ChangeShapes Go.WideShapes Go.ChangeAt Go.RowKit Go.Proofs.Palim

theorem pickW2 (g k : Nat) (w : World) (hr : Rd w g k) (hk : k ≤ 1000000) :
    Calls Tryz.prog 36 #[.pointer (some ⟨g, 0, none⟩), .int .i64 2] w fun e w' => ∃ r : Nat, r < 2 ∧ e = .returned (.int .i64 (r : Int)) ∧ w.grownBy w' (some g) ∧ Rd w' g (k + 1) := pick_op g k 2 w hr hk (by omega) (by omega)
theorem pickW8 (g k : Nat) (w : World) (hr : Rd w g k) (hk : k ≤ 1000000) :
    Calls Tryz.prog 36 #[.pointer (some ⟨g, 0, none⟩), .int .i64 8] w fun e w' => ∃ r : Nat, r < 8 ∧ e = .returned (.int .i64 (r : Int)) ∧ w.grownBy w' (some g) ∧ Rd w' g (k + 1) := pick_op g k 8 w hr hk (by omega) (by omega)
theorem pickW20 (g k : Nat) (w : World) (hr : Rd w g k) (hk : k ≤ 1000000) :
    Calls Tryz.prog 36 #[.pointer (some ⟨g, 0, none⟩), .int .i64 20] w fun e w' => ∃ r : Nat, r < 20 ∧ e = .returned (.int .i64 (r : Int)) ∧ w.grownBy w' (some g) ∧ Rd w' g (k + 1) := pick_op g k 20 w hr hk (by omega) (by omega)
/-- A disk is drawn, and lies in the box x; the reader is g, the result's box is the first made. -/
structure WD (w wr : World) (g x k : Nat) (v0 v1 vl : Value) (d : DiskM) : Prop where
  xr : Box wr w.heap.size [.slice none 0 0, .slice none 0 0, .slice none 0 0]
  xo : Box wr x [v0, v1, vl]
  own : DiskOwn wr (g + 1) v0 v1 vl d
  rd : Rd wr g k
  bl : Below w.heap.size w wr
  hg : w.heap.size < g
  hx : g < x
  short : DiskShort d
theorem WD.lt {w wr : World} {g x k : Nat} {v0 v1 vl : Value} {d : DiskM} (h : WD w wr g x k v0 v1 vl d) : w.heap.size < x := Nat.lt_trans h.hg h.hx
theorem WD.grown {w wr w2 : World} {g x k k2 : Nat} {v0 v1 vl : Value} {d : DiskM} (h : WD w wr g x k v0 v1 vl d) (hg : wr.grownBy w2 (some g)) (hr : Rd w2 g k2) : WD w w2 g x k2 v0 v1 vl d :=
  ⟨box_grownG h.xr hg (Nat.ne_of_lt h.hg), box_grownG h.xo hg (Nat.ne_of_gt h.hx), h.own.grownG hg (Nat.lt_succ_self _), hr, h.bl.grown hg h.bl.size (fun k e => by injection e with e; have := h.hg; omega), h.hg, h.hx, h.short⟩
theorem WD.below {w wr w2 : World} {g x k : Nat} {v0 v1 vl : Value} {d : DiskM} (h : WD w wr g x k v0 v1 vl d) (hb : Below wr.heap.size wr w2) : WD w w2 g x k v0 v1 vl d :=
  ⟨h.xr.below hb h.xr.lt, h.xo.below hb h.xo.lt, h.own.below hb, h.rd.below hb, h.bl.trans (hb.mono h.bl.size), h.hg, h.hx, h.short⟩
theorem WD.back {w wr : World} {g x k : Nat} {v0 v1 vl : Value} {d : DiskM} (h : WD w wr g x k v0 v1 vl d) (side at_ : Int) (t : ByteArray) (ht : t.size ≤ 1000) :
    Box (((wr.setCell ⟨w.heap.size, 0, none⟩ v0).setCell ⟨w.heap.size, 1, none⟩ v1).setCell ⟨w.heap.size, 2, none⟩ vl) x [v0, v1, vl] ∧
    DrawnW w (.returned (.tuple #[.agg #[v0, v1, vl], .int .i64 side, .int .i64 at_, .string t])) (((wr.setCell ⟨w.heap.size, 0, none⟩ v0).setCell ⟨w.heap.size, 1, none⟩ v1).setCell ⟨w.heap.size, 2, none⟩ vl) := by
  have hg := h.hg
  have hx := h.lt
  refine ⟨((h.xo.other (by simp; omega) _).other (by simp; omega) _).other (by simp; omega) _, d, side, at_, t, v0, v1, vl, rfl, (h.own.set3 (by simp; omega) (by simp; omega) (by simp; omega)).base (by omega), h.short, ht, Below.set3 h.bl (Nat.le_refl _) _ _ _⟩

end Go.Proofs.YtfcfgdpelbljnaaGreatDoor
