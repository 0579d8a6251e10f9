/-
  Disks as values: what they read as, which of them a call owns, and the laws' helpers on them.
-/
import Derived.Test.YthhgjjdnkhmggaaA2
import Derived.Test.YthhgjjdnkhmggaaA2M
namespace Go.Proofs.Ythhgjjdnkhmggaa
open Go.ChangeShapes Go.WideShapes Go.ChangeAt Go.RowKit Go.Proofs.Palim

structure DiskM where
  s0 : List ByteArray
  s1 : List ByteArray
  late : List LateM

/-- The block of a value lies below B. -/
def Low (B : Nat) (v : Value) : Prop := ∀ b, v.ownBlock = some b → b < B
theorem Low.mono {B B' : Nat} {v : Value} (h : Low B v) (hB : B ≤ B') : Low B' v := fun b e => Nat.lt_of_lt_of_le (h b e) hB
theorem low_of_own {w : World} {base e sz n : Nat} {v : Value} {xs : List Value} (h : w.ownsRow base e sz v n xs) : Low w.heap.size v := fun b e => (h.lt b e).2

/-- Three slices that read as a disk. -/
structure DiskR (w : World) (v0 v1 vl : Value) (d : DiskM) : Prop where
  r0 : Sl w 1 v0 d.s0.length (scs d.s0)
  r1 : Sl w 1 v1 d.s1.length (scs d.s1)
  rl : Sl w 3 vl d.late.length (lcs d.late)
  l0 : Low w.heap.size v0
  l1 : Low w.heap.size v1
  ll : Low w.heap.size vl
theorem DiskR.below {w w' : World} {v0 v1 vl : Value} {d : DiskM} (h : DiskR w v0 v1 vl d) (hb : Below w.heap.size w w') : DiskR w' v0 v1 vl d :=
  ⟨h.r0.below hb h.l0, h.r1.below hb h.l1, h.rl.below hb h.ll, h.l0.mono hb.size, h.l1.mono hb.size, h.ll.mono hb.size⟩
/-- Short enough for the laws. -/
structure DiskShort (d : DiskM) : Prop where
  n0 : d.s0.length ≤ 1048576
  n1 : d.s1.length ≤ 1048576
  nl : d.late.length ≤ 1048576
  z0 : ∀ s ∈ d.s0, s.size ≤ 1048576
  z1 : ∀ s ∈ d.s1, s.size ≤ 1048576
  zl : ∀ x ∈ d.late, x.text.size ≤ 1048576

theorem own4 {w : World} {base e sz n : Nat} {v : Value} {xs : List Value} (h : w.ownsRow base e sz v n xs) {a b c d : Addr} {x y z u : Value} (ha : a.block < base) (hb : b.block < base) (hc : c.block < base) (hd : d.block < base) :
    ((((w.setCell a x).setCell b y).setCell c z).setCell d u).ownsRow base e sz v n xs :=
  ownsRow_setCell_below (ownsRow_setCell_below (ownsRow_setCell_below (ownsRow_setCell_below h ha _) hb _) hc _) hd _

end Go.Proofs.Ythhgjjdnkhmggaa
