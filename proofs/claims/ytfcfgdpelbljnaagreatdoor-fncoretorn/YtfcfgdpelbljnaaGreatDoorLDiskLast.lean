/-
  The law on the last write of a sector, walked: what is asked of the draws is hDraw.
-/
import Derived.Test.YtfcfgdpelbljnaaGreatDoorLastMath
import Derived.Test.YtfcfgdpelbljnaaGreatDoorDraws
import Derived.Test.YtfcfgdpelbljnaaGreatDoorIms
import Derived.Test.YtfcfgdpelbljnaaGreatDoorImDiskFall
import Derived.Test.YtfcfgdpelbljnaaGreatDoorPDiskWrite
set_option maxRecDepth 100000
namespace Go.Proofs.YtfcfgdpelbljnaaGreatDoor
open Go.ChangeShapes Go.WideShapes Go.ChangeAt Go.RowKit Go.Proofs.Palim

/-- A disk, a sector and a text are drawn: they read as such, and are short. -/
def DrawnW (w : World) (e : Ending) (w' : World) : Prop :=
  ∃ (d : DiskM) (side at_ : Int) (text : ByteArray) (v0 v1 vl : Value), e = .returned (.tuple #[.agg #[v0, v1, vl], .int .i64 side, .int .i64 at_, .string text]) ∧ DiskOwn w' w.heap.size v0 v1 vl d ∧ DiskShort d ∧ text.size ≤ 1000 ∧ Below w.heap.size w w'

theorem Boxed.under {w w' : World} {x B C : Nat} {v0 v1 vl : Value} {d : DiskM} (h : Boxed w x B v0 v1 vl d) (hb : Below C w w') (hx : x < C) : Boxed w' x B v0 v1 vl d :=
  ⟨h.box.below hb hx, h.low, ⟨h.reads.r0.below hb fun b e => by have := h.low.l0 b e; have := h.lt; omega, h.reads.r1.below hb fun b e => by have := h.low.l1 b e; have := h.lt; omega, h.reads.rl.below hb fun b e => by have := h.low.ll b e; have := h.lt; omega, h.reads.l0.mono hb.size, h.reads.l1.mono hb.size, h.reads.ll.mono hb.size⟩, h.lt⟩
theorem Sl.ones {w : World} {A : Option Addr} {N c : Nat} (h : Sl w 1 (.slice A (N + 1) c) (N + 1) (ics (List.replicate (N + 1) 1))) : Sl w 1 (.slice A N c) N (ics (List.replicate N 1)) := by
  obtain ⟨b, off, c', hv, h1, h2, h3⟩ := h.form (by omega)
  injection hv with e1 e2 e3
  subst e1 e3
  refine ⟨by simp [ics], _, _, rfl, by omega, h2, Or.inr ⟨b, off, rfl, fun j u hu => h3 j u ?_⟩⟩
  have hj := (List.getElem?_eq_some_iff.1 hu).1
  simp [ics] at hj
  simp [ics, hj] at hu
  simp [ics, show j < N + 1 by omega, hu]

end Go.Proofs.YtfcfgdpelbljnaaGreatDoor
