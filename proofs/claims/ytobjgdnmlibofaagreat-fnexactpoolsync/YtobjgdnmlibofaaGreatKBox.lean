/-
  Cores in boxes: what a law's variables are.
-/
import Derived.Test.YtobjgdnmlibofaaGreatCoreE
import Derived.Test.YtobjgdnmlibofaaGreatCoreArg
import Derived.Test.YtobjgdnmlibofaaGreatBookBox
set_option maxRecDepth 100000
namespace Go.Proofs.YtobjgdnmlibofaaGreat
open Go.ChangeShapes Go.WideShapes Go.ChangeAt Go.RowKit Go.Proofs.Palim

structure KBox (w : World) (x : Nat) (vs vd vp vi : Value) (c : CoreM) : Prop where
  box : Box w x (kcore c vs vd vp vi)
  reads : CoreR w vs vd vp vi c
theorem KBox.below {w w' : World} {x : Nat} {vs vd vp vi : Value} {c : CoreM} (h : KBox w x vs vd vp vi c) (hb : Below w.heap.size w w') : KBox w' x vs vd vp vi c := ⟨h.box.below hb h.box.lt, h.reads.below hb⟩
theorem kbox_new {w : World} {vs vd vp vi : Value} {c : CoreM} (h : CoreR w vs vd vp vi c) (e : Nat) : KBox (w.alloc (.cells #[.int .i64 c.txg, vs, vd, vp, .bool c.dirty, vi, .int .i64 c.logn] e)) w.heap.size vs vd vp vi c :=
  ⟨box_new _ _ _, h.below (Below.new1 _)⟩
theorem CoreR.drew {w : World} {vs vd vp vi : Value} {c : CoreM} (h : CoreR w vs vd vp vi c) : CoreR w.drew vs vd vp vi c := ⟨h.s, h.d, h.p, h.i, h.ls, h.ld, h.lp, h.li⟩
theorem KBox.drew {w : World} {x : Nat} {vs vd vp vi : Value} {c : CoreM} (h : KBox w x vs vd vp vi c) : KBox w.drew x vs vd vp vi c := ⟨h.box, h.reads.drew⟩
theorem aggCoreL : Agg Tryz.prog 32 7 := ⟨Tryz.isAgg32, Tryz.sizeOf32⟩
end Go.Proofs.YtobjgdnmlibofaaGreat
