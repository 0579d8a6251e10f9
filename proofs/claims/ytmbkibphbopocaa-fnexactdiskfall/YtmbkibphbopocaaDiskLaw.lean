/-
  What the laws on disks have in common.
-/
import Derived.Test.YtmbkibphbopocaaDiskE
import Derived.Test.YtmbkibphbopocaaDiskOpen
namespace Go.Proofs.Ytmbkibphbopocaa
open Go.ChangeShapes Go.WideShapes Go.ChangeAt Go.RowKit Go.Proofs.Palim

/-- The blocks of a disk lie below B. -/
structure DiskLow (B : Nat) (v0 v1 vl : Value) : Prop where
  l0 : Low B v0
  l1 : Low B v1
  ll : Low B vl
theorem DiskLow.mono {B B' : Nat} {v0 v1 vl : Value} (h : DiskLow B v0 v1 vl) (hB : B ≤ B') : DiskLow B' v0 v1 vl := ⟨h.l0.mono hB, h.l1.mono hB, h.ll.mono hB⟩
theorem DiskR.low {w : World} {v0 v1 vl : Value} {d : DiskM} (h : DiskR w v0 v1 vl d) : DiskLow w.heap.size v0 v1 vl := ⟨h.l0, h.l1, h.ll⟩
/-- A disk that lies below another one reads as it did when that one has been marked. -/
theorem DiskR.past {w w' : World} {v0 v1 vl u0 u1 ul : Value} {d d' : DiskM} {B : Nat} (h : DiskR w v0 v1 vl d) (ht : Turned (DTurns u0 u1 ul) w w') (hl : DiskLow B v0 v1 vl) (ho : DiskOwn w B u0 u1 ul d') : DiskR w' v0 v1 vl d := by
  have hn : ∀ b, b < B → ¬ DTurns u0 u1 ul b := by
    rintro b hb (e | e | e)
    · have := (ho.o0.lt b e).1; omega
    · have := (ho.o1.lt b e).1; omega
    · have := (ho.ol.lt b e).1; omega
  exact ⟨h.r0.kept fun b e => ht.block b (h.l0 b e) (hn b (hl.l0 b e)), h.r1.kept fun b e => ht.block b (h.l1 b e) (hn b (hl.l1 b e)), h.rl.kept fun b e => ht.block b (h.ll b e) (hn b (hl.ll b e)), h.l0.mono ht.size, h.l1.mono ht.size, h.ll.mono ht.size⟩
theorem DiskOwn.forms {w : World} {base : Nat} {v0 v1 vl : Value} {d : DiskM} (h : DiskOwn w base v0 v1 vl d) : ∃ A0 c0 A1 c1 Al cl, v0 = .slice A0 d.s0.length c0 ∧ v1 = .slice A1 d.s1.length c1 ∧ vl = .slice Al d.late.length cl := by
  obtain ⟨_, A0, c0, rfl, _⟩ := sl_of_own h.o0
  obtain ⟨_, A1, c1, rfl, _⟩ := sl_of_own h.o1
  obtain ⟨_, Al, cl, rfl, _⟩ := sl_of_own h.ol
  exact ⟨_, _, _, _, _, _, rfl, rfl, rfl⟩
/-- Below B nothing turns when a disk at or above B is marked. -/
theorem below_past {w w' : World} {u0 u1 ul : Value} {d' : DiskM} {B : Nat} (ht : Turned (DTurns u0 u1 ul) w w') (ho : DiskOwn w B u0 u1 ul d') (hB : B ≤ w.heap.size) : Below B w w' :=
  ht.below (fun b hb _ => by
    rintro (e | e | e)
    · have := (ho.o0.lt b e).1; omega
    · have := (ho.o1.lt b e).1; omega
    · have := (ho.ol.lt b e).1; omega) hB

theorem short_no : DiskShort noDisk := ⟨by simp [noDisk], by simp [noDisk], by simp [noDisk], by simp [noDisk], by simp [noDisk], by simp [noDisk]⟩
theorem short_open (n : Int) : DiskShort (openM n) := by
  unfold openM
  split
  · exact short_no
  · refine ⟨by simp; omega, by simp; omega, by simp, ?_, ?_, by simp⟩
    all_goals
      intro s hs
      rw [List.eq_of_mem_replicate hs]
      exact Nat.zero_le _

/-- The count of marks of a disk, from k on. -/
def dmend (k : Nat) (d : DiskM) : Nat := k + d.s0.length + d.s1.length + 3 * d.late.length
theorem dmend_small {d : DiskM} (hs : DiskShort d) {k : Nat} (hk : k ≤ 80000000) : dmend k d ≤ 90000000 := by have := hs.n0; have := hs.n1; have := hs.nl; unfold dmend; omega
/-- A disk in a box of its own: what the law's variables are. -/
structure Boxed (w : World) (x B : Nat) (v0 v1 vl : Value) (d : DiskM) : Prop where
  box : Box w x [v0, v1, vl]
  low : DiskLow B v0 v1 vl
  reads : DiskR w v0 v1 vl d
  lt : B ≤ x
theorem Boxed.below {w w' : World} {x B : Nat} {v0 v1 vl : Value} {d : DiskM} (h : Boxed w x B v0 v1 vl d) (hb : Below w.heap.size w w') : Boxed w' x B v0 v1 vl d := ⟨h.box.below hb h.box.lt, h.low, h.reads.below hb, h.lt⟩
theorem DiskOwn.past {w : World} {C x : Nat} {u0 u1 ul : Value} {d : DiskM} (h : DiskOwn w C u0 u1 ul d) (hx : x < C) : ¬ DTurns u0 u1 ul x := by
  rintro (e | e | e)
  · have := (h.o0.lt x e).1; omega
  · have := (h.o1.lt x e).1; omega
  · have := (h.ol.lt x e).1; omega
theorem DiskLow.past {B x : Nat} {u0 u1 ul : Value} (h : DiskLow B u0 u1 ul) (hx : B ≤ x) : ¬ DTurns u0 u1 ul x := by
  rintro (e | e | e)
  · have := h.l0 x e; omega
  · have := h.l1 x e; omega
  · have := h.ll x e; omega
theorem Boxed.past {w w' : World} {x B C : Nat} {v0 v1 vl u0 u1 ul : Value} {d d' : DiskM} (h : Boxed w x B v0 v1 vl d) (ht : Turned (DTurns u0 u1 ul) w w') (ho : DiskOwn w C u0 u1 ul d') (hx : x < C) : Boxed w' x B v0 v1 vl d :=
  ⟨h.box.turned ht (ho.past hx), h.low, h.reads.past ht (h.low.mono (by have := h.lt; omega)) ho, h.lt⟩
theorem boxed_new {w : World} {v0 v1 vl : Value} {d : DiskM} (h : DiskR w v0 v1 vl d) (e : Nat) : Boxed (w.alloc (.cells #[v0, v1, vl] e)) w.heap.size w.heap.size v0 v1 vl d :=
  ⟨box_new _ _ _, h.low, h.below ((Below.refl _ _).alloc (Nat.le_refl _) _), Nat.le_refl _⟩
theorem Below.new {w : World} (o : Obj) : Below w.heap.size w (w.alloc o) := (Below.refl _ _).alloc (Nat.le_refl _) _

set_option maxHeartbeats 1000000 in
theorem lawDiskOpen (n : Int) (w : World) (h0 : -9223372036854775808 ≤ n) (h1 : n ≤ 9223372036854775807) (hI : ∀ w : World, Calls Try.prog 18 #[.int .i64 n] w (NewDisk w (openM n))) :
    Calls Try.prog 4 #[.int .i64 n] w fun e w' => e = .returned (.bool true) ∧ Below w.heap.size w w' := by
  have hnot : ∀ (x : Bool) (w : World), (Op.unary .not (.bool x)).run Try.prog w = .ok (.bool (!x)) w := fun _ _ => rfl
  have HS := Lib.hid (short_open n)
  have HI := Lib.hid hI
  clear hI
  have hspec := Lib.hid (fun w => DiskOpen_any n w h0 h1)
  generalize openM n = d at HS HI hspec
  go_enter Try.func4, Try.ntmps4
  go_wp2_with fail
  -- spec's answer
  refine (hspec.out _).mono ?_
  rintro e w1 ⟨a0, a1, al, rfl, ha, hb⟩
  obtain ⟨A0, c0, A1, c1, Al, cl, rfl, rfl, rfl⟩ := ha.forms
  have XA := Lib.hid (boxed_new ha.reads 27)
  have B1 := Lib.hid (hb.trans ((Below.new (w := w1) (.cells #[.slice A0 d.s0.length c0, .slice A1 d.s1.length c1, .slice Al d.late.length cl] 27)).mono hb.size))
  clear ha hb
  go_wp2_with fail
  -- impl's answer
  refine (HI.out _).mono ?_
  rintro e w2 ⟨g0, g1, gl, rfl, hg, hb⟩
  obtain ⟨G0, k0, G1, k1, Gl, kl, rfl, rfl, rfl⟩ := hg.forms
  have XA2 := Lib.hid (XA.out.below hb)
  have XG := Lib.hid (boxed_new hg.reads 27)
  have B2 := Lib.hid (B1.out.trans (hb.mono B1.out.size))
  have OG := Lib.hid (hg.below (Below.new (.cells #[.slice G0 d.s0.length k0, .slice G1 d.s1.length k1, .slice Gl d.late.length kl] 27)))
  have hC0 := B1.out.size
  have hC1 := hb.size
  clear hg hb XA B1
  have XA3 := Lib.hid (XA2.out.below (Below.new (.cells #[.slice G0 d.s0.length k0, .slice G1 d.s1.length k1, .slice Gl d.late.length kl] 27)))
  obtain ⟨x0, x1, x2⟩ := XA3.out.box.three
  have hlt := XA2.out.box.lt
  go_wp2_with fail
  -- they are one
  have RG := Lib.hid OG.out.reads
  refine (eqDisk_same _ _ _ _ _ _ d _ RG.out XA3.out.reads HS.out).mono ?_
  rintro e w3 ⟨rfl, hb⟩
  have YA := Lib.hid (XA3.out.below hb)
  have YG := Lib.hid (XG.out.below hb)
  have OG3 := Lib.hid (OG.out.below hb)
  have B3 := Lib.hid ((B2.out.trans ((Below.new (w := w2) (.cells #[.slice G0 d.s0.length k0, .slice G1 d.s1.length k1, .slice Gl d.late.length kl] 27)).mono B2.out.size)).trans (hb.mono (by have := B2.out.size; simp; omega)))
  have hg1 : w1.heap.size < (w1.alloc (.cells #[.slice A0 d.s0.length c0, .slice A1 d.s1.length c1, .slice Al d.late.length cl] 27)).heap.size := by simp
  have hC2 := Nat.le_trans hC1 (Nat.le_trans (Below.new (w := w2) (.cells #[.slice G0 d.s0.length k0, .slice G1 d.s1.length k1, .slice Gl d.late.length kl] 27)).size hb.size)
  clear hb XA2 XA3 XG OG RG B2 x0 x1 x2 hlt hC1
  generalize (w1.alloc (.cells #[.slice A0 d.s0.length c0, .slice A1 d.s1.length c1, .slice Al d.late.length cl] 27)).heap.size = C at hg1 OG3 hC0 hC2
  obtain ⟨x0, x1, x2⟩ := YG.out.box.three
  go_wp2_with fail
  -- marked
  refine (markDisk_any _ _ _ d 1 C _ OG3.out HS.out (by omega) (by omega)).mono ?_
  rintro e w4 ⟨rfl, hd, ht⟩
  have YA4 := Lib.hid (YA.out.past ht OG3.out hg1)
  have BG4 := Lib.hid (YG.out.box.turned ht (YG.out.low.past YG.out.lt))
  have B4 := Lib.hid (B3.out.trans ((below_past ht OG3.out hC2).mono hC0))
  have OG4 := Lib.hid hd
  clear hd ht YA YG OG3 B3 x0 x1 x2
  have hm := dmend_small HS.out (k := 1) (by omega)
  obtain ⟨M, HM⟩ : ∃ M, Hid (dmend 1 d = M) := ⟨_, Lib.hid rfl⟩
  rw [HM.out] at hm
  rw [show 1 + d.s0.length + d.s1.length + 3 * d.late.length = M from HM.out]
  obtain ⟨x0, x1, x2⟩ := BG4.out.three
  go_wp2_with fail
  -- and held
  refine (heldDisk_any _ _ _ d.s0.length d.s1.length d.late.length 1 _ OG4.out.reads HS.out.n0 HS.out.n1 HS.out.nl (by omega) (by omega)).mono ?_
  rintro e w5 ⟨rfl, hb⟩
  rw [show 1 + d.s0.length + d.s1.length + 3 * d.late.length = M from HM.out]
  have YA5 := Lib.hid (YA4.out.below hb)
  have BG5 := Lib.hid (BG4.out.below hb BG4.out.lt)
  have OG5 := Lib.hid (OG4.out.below hb)
  have B5 := Lib.hid (B4.out.trans (hb.mono B4.out.size))
  clear hb YA4 BG4 OG4 B4 x0 x1 x2
  have hM0 : ¬ (M : Int) < 0 := by omega
  go_wp2_with fail
  -- once more
  refine (HI.out _).mono ?_
  rintro e w6 ⟨i0, i1, il, rfl, hi, hb⟩
  obtain ⟨I0, j0, I1, j1, Il, jl, rfl, rfl, rfl⟩ := hi.forms
  have hn := Below.new (w := w6) (.cells #[.slice I0 d.s0.length j0, .slice I1 d.s1.length j1, .slice Il d.late.length jl] 27)
  have YA6 := Lib.hid ((YA5.out.below hb).below hn)
  have RI := Lib.hid (hi.below hn).reads
  have BG6 := Lib.hid ((BG5.out.below hb BG5.out.lt).alloc (.cells #[.slice I0 d.s0.length j0, .slice I1 d.s1.length j1, .slice Il d.late.length jl] 27))
  have OG6 := Lib.hid ((OG5.out.below hb).below hn)
  have B6 := Lib.hid ((B5.out.trans (hb.mono B5.out.size)).trans (hn.mono (by have := B5.out.size; have := hb.size; omega)))
  have hlt := (YA5.out.below hb).box.lt
  clear hi hb hn YA5 BG5 OG5 B5
  obtain ⟨x0, x1, x2⟩ := YA6.out.box.three
  go_wp2_with fail
  refine (eqDisk_same _ _ _ _ _ _ d _ RI.out YA6.out.reads HS.out).mono ?_
  rintro e w7 ⟨rfl, hb⟩
  have BG7 := Lib.hid (BG6.out.below hb BG6.out.lt)
  have OG7 := Lib.hid (OG6.out.below hb)
  have B7 := Lib.hid (B6.out.trans (hb.mono B6.out.size))
  clear hb YA6 RI BG6 OG6 B6 x0 x1 x2 hlt
  obtain ⟨x0, x1, x2⟩ := BG7.out.three
  go_wp2_with fail
  refine (heldDisk_any _ _ _ d.s0.length d.s1.length d.late.length 1 _ OG7.out.reads HS.out.n0 HS.out.n1 HS.out.nl (by omega) (by omega)).mono ?_
  rintro e w8 ⟨rfl, hb⟩
  rw [show 1 + d.s0.length + d.s1.length + 3 * d.late.length = M from HM.out]
  have B8 := Lib.hid (B7.out.trans (hb.mono B7.out.size))
  clear hb BG7 OG7 B7 x0 x1 x2
  go_wp2
  go_ret
  exact ⟨rfl, B8.out⟩
end Go.Proofs.Ytmbkibphbopocaa
