/-
  What the laws on disks have in common.
-/
import Derived.Test.YtobjgdnmlibofaaGreatDiskE
import Derived.Test.YtobjgdnmlibofaaGreatDiskOpen
set_option maxRecDepth 100000
namespace Go.Proofs.YtobjgdnmlibofaaGreat
open Go.ChangeShapes Go.WideShapes Go.ChangeAt Go.RowKit Go.Proofs.Palim

/-- The blocks of a disk lie below B. -/
structure DiskLow (B : Nat) (v0 v1 vl : Value) : Prop where
  l0 : Low B v0
  l1 : Low B v1
  ll : Low B vl
theorem DiskLow.mono {B B' : Nat} {v0 v1 vl : Value} (h : DiskLow B v0 v1 vl) (hB : B ≤ B') : DiskLow B' v0 v1 vl := ⟨h.l0.mono hB, h.l1.mono hB, h.ll.mono hB⟩
theorem DiskR.low {w : World} {v0 v1 vl : Value} {d : DiskM} (h : DiskR w v0 v1 vl d) : DiskLow w.heap.size v0 v1 vl := ⟨h.l0, h.l1, h.ll⟩
/-- A disk that lies below another one reads as it did when that one has been marked. -/
theorem DiskR.past {w w' : World} {v0 v1 vl u0 u1 ul : Value} {d d' : DiskM} {B : Nat} (h : DiskR w v0 v1 vl d) (ht : Turned (DTurns u0 u1 ul) w w') (hl : DiskLow B v0 v1 vl) (ho : DiskOwn w B u0 u1 ul d') : DiskR w' v0 v1 vl d := by
  have hn : ∀ b, b < B → ¬ DTurns u0 u1 ul b := by
    rintro b hb (e | e | e)
    · have := (ho.o0.lt b e).1; omega
    · have := (ho.o1.lt b e).1; omega
    · have := (ho.ol.lt b e).1; omega
  exact ⟨h.r0.kept fun b e => ht.block b (h.l0 b e) (hn b (hl.l0 b e)), h.r1.kept fun b e => ht.block b (h.l1 b e) (hn b (hl.l1 b e)), h.rl.kept fun b e => ht.block b (h.ll b e) (hn b (hl.ll b e)), h.l0.mono ht.size, h.l1.mono ht.size, h.ll.mono ht.size⟩
theorem DiskOwn.forms {w : World} {base : Nat} {v0 v1 vl : Value} {d : DiskM} (h : DiskOwn w base v0 v1 vl d) : ∃ A0 c0 A1 c1 Al cl, v0 = .slice A0 d.s0.length c0 ∧ v1 = .slice A1 d.s1.length c1 ∧ vl = .slice Al d.late.length cl := by
  obtain ⟨_, A0, c0, rfl, _⟩ := sl_of_own h.o0
  obtain ⟨_, A1, c1, rfl, _⟩ := sl_of_own h.o1
  obtain ⟨_, Al, cl, rfl, _⟩ := sl_of_own h.ol
  exact ⟨_, _, _, _, _, _, rfl, rfl, rfl⟩
/-- Below B nothing turns when a disk at or above B is marked. -/
theorem below_past {w w' : World} {u0 u1 ul : Value} {d' : DiskM} {B : Nat} (ht : Turned (DTurns u0 u1 ul) w w') (ho : DiskOwn w B u0 u1 ul d') (hB : B ≤ w.heap.size) : Below B w w' :=
  ht.below (fun b hb _ => by
    rintro (e | e | e)
    · have := (ho.o0.lt b e).1; omega
    · have := (ho.o1.lt b e).1; omega
    · have := (ho.ol.lt b e).1; omega) hB

theorem short_no : DiskShort noDisk := ⟨by simp [noDisk], by simp [noDisk], by simp [noDisk], by simp [noDisk], by simp [noDisk], by simp [noDisk]⟩
theorem short_open (n : Int) : DiskShort (openM n) := by
  unfold openM
  split
  · exact short_no
  · refine ⟨by simp; omega, by simp; omega, by simp, ?_, ?_, by simp⟩
    all_goals
      intro s hs
      rw [List.eq_of_mem_replicate hs]
      exact Nat.zero_le _

/-- The count of marks of a disk, from k on. -/
def dmend (k : Nat) (d : DiskM) : Nat := k + d.s0.length + d.s1.length + 3 * d.late.length
theorem dmend_small {d : DiskM} (hs : DiskShort d) {k : Nat} (hk : k ≤ 80000000) : dmend k d ≤ 90000000 := by have := hs.n0; have := hs.n1; have := hs.nl; unfold dmend; omega
/-- A disk in a box of its own: what the law's variables are. -/
structure Boxed (w : World) (x B : Nat) (v0 v1 vl : Value) (d : DiskM) : Prop where
  box : Box w x [v0, v1, vl]
  low : DiskLow B v0 v1 vl
  reads : DiskR w v0 v1 vl d
  lt : B ≤ x
theorem Boxed.below {w w' : World} {x B : Nat} {v0 v1 vl : Value} {d : DiskM} (h : Boxed w x B v0 v1 vl d) (hb : Below w.heap.size w w') : Boxed w' x B v0 v1 vl d := ⟨h.box.below hb h.box.lt, h.low, h.reads.below hb, h.lt⟩
theorem DiskOwn.past {w : World} {C x : Nat} {u0 u1 ul : Value} {d : DiskM} (h : DiskOwn w C u0 u1 ul d) (hx : x < C) : ¬ DTurns u0 u1 ul x := by
  rintro (e | e | e)
  · have := (h.o0.lt x e).1; omega
  · have := (h.o1.lt x e).1; omega
  · have := (h.ol.lt x e).1; omega
theorem DiskLow.past {B x : Nat} {u0 u1 ul : Value} (h : DiskLow B u0 u1 ul) (hx : B ≤ x) : ¬ DTurns u0 u1 ul x := by
  rintro (e | e | e)
  · have := h.l0 x e; omega
  · have := h.l1 x e; omega
  · have := h.ll x e; omega
theorem Boxed.past {w w' : World} {x B C : Nat} {v0 v1 vl u0 u1 ul : Value} {d d' : DiskM} (h : Boxed w x B v0 v1 vl d) (ht : Turned (DTurns u0 u1 ul) w w') (ho : DiskOwn w C u0 u1 ul d') (hx : x < C) : Boxed w' x B v0 v1 vl d :=
  ⟨h.box.turned ht (ho.past hx), h.low, h.reads.past ht (h.low.mono (by have := h.lt; omega)) ho, h.lt⟩
theorem boxed_new {w : World} {v0 v1 vl : Value} {d : DiskM} (h : DiskR w v0 v1 vl d) (e : Nat) : Boxed (w.alloc (.cells #[v0, v1, vl] e)) w.heap.size w.heap.size v0 v1 vl d :=
  ⟨box_new _ _ _, h.low, h.below ((Below.refl _ _).alloc (Nat.le_refl _) _), Nat.le_refl _⟩
theorem Below.new {w : World} (o : Obj) : Below w.heap.size w (w.alloc o) := (Below.refl _ _).alloc (Nat.le_refl _) _

end Go.Proofs.YtobjgdnmlibofaaGreat
