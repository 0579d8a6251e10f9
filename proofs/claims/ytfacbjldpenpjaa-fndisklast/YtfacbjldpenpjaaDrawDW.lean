/-
  spec's DrawDiskWrite: a disk, a sector and a text are drawn (hD: what l2Disk hands back).
-/
import Derived.Test.YtfacbjldpenpjaaDrawDisk
import Derived.Test.YtfacbjldpenpjaaImDiskOpen
import Derived.Deep.CutRange
import Derived.Deep.RegionHeld3
set_option maxRecDepth 100000
namespace Go.Proofs.Ytfacbjldpenpjaa
open Go.ChangeShapes Go.WideShapes Go.ChangeAt Go.RowKit Go.Proofs.Palim

theorem pickW2 (g k : Nat) (w : World) (hr : Rd w g k) (hk : k ≤ 1000000) :
    Calls Try.prog 28 #[.pointer (some ⟨g, 0, none⟩), .int .i64 2] w fun e w' => ∃ r : Nat, r < 2 ∧ e = .returned (.int .i64 (r : Int)) ∧ w.grownBy w' (some g) ∧ Rd w' g (k + 1) := pick_op g k 2 w hr hk (by omega) (by omega)
theorem pickW8 (g k : Nat) (w : World) (hr : Rd w g k) (hk : k ≤ 1000000) :
    Calls Try.prog 28 #[.pointer (some ⟨g, 0, none⟩), .int .i64 8] w fun e w' => ∃ r : Nat, r < 8 ∧ e = .returned (.int .i64 (r : Int)) ∧ w.grownBy w' (some g) ∧ Rd w' g (k + 1) := pick_op g k 8 w hr hk (by omega) (by omega)
theorem pickW20 (g k : Nat) (w : World) (hr : Rd w g k) (hk : k ≤ 1000000) :
    Calls Try.prog 28 #[.pointer (some ⟨g, 0, none⟩), .int .i64 20] w fun e w' => ∃ r : Nat, r < 20 ∧ e = .returned (.int .i64 (r : Int)) ∧ w.grownBy w' (some g) ∧ Rd w' g (k + 1) := pick_op g k 20 w hr hk (by omega) (by omega)
theorem many_int (c : UInt8) (z : Int) (w : World) (h0 : 0 ≤ z) (h1 : z ≤ 1000) :
    Calls Try.prog 29 #[.string ⟨#[c]⟩, .int .i64 z] w fun e w' => ∃ t : ByteArray, t.size ≤ 1000 ∧ e = .returned (.string t) ∧ Below w.heap.size w w' := by
  obtain ⟨n, rfl⟩ := Int.eq_ofNat_of_zero_le h0
  refine (l19Many_any c n w (by omega)).mono ?_
  rintro e w' ⟨t, ht, he, hb⟩
  exact ⟨t, by omega, he, hb⟩
/-- A disk is drawn, and lies in the box x; the reader is g, the result's box is the first made. -/
structure WD (w wr : World) (g x k : Nat) (v0 v1 vl : Value) (d : DiskM) : Prop where
  xr : Box wr w.heap.size [.slice none 0 0, .slice none 0 0, .slice none 0 0]
  xo : Box wr x [v0, v1, vl]
  own : DiskOwn wr (g + 1) v0 v1 vl d
  rd : Rd wr g k
  bl : Below w.heap.size w wr
  hg : w.heap.size < g
  hx : g < x
  short : DiskShort d
theorem WD.lt {w wr : World} {g x k : Nat} {v0 v1 vl : Value} {d : DiskM} (h : WD w wr g x k v0 v1 vl d) : w.heap.size < x := Nat.lt_trans h.hg h.hx
theorem WD.grown {w wr w2 : World} {g x k k2 : Nat} {v0 v1 vl : Value} {d : DiskM} (h : WD w wr g x k v0 v1 vl d) (hg : wr.grownBy w2 (some g)) (hr : Rd w2 g k2) : WD w w2 g x k2 v0 v1 vl d :=
  ⟨box_grownG h.xr hg (Nat.ne_of_lt h.hg), box_grownG h.xo hg (Nat.ne_of_gt h.hx), h.own.grownG hg (Nat.lt_succ_self _), hr, h.bl.grown hg h.bl.size (fun k e => by injection e with e; have := h.hg; omega), h.hg, h.hx, h.short⟩
theorem WD.below {w wr w2 : World} {g x k : Nat} {v0 v1 vl : Value} {d : DiskM} (h : WD w wr g x k v0 v1 vl d) (hb : Below wr.heap.size wr w2) : WD w w2 g x k v0 v1 vl d :=
  ⟨h.xr.below hb h.xr.lt, h.xo.below hb h.xo.lt, h.own.below hb, h.rd.below hb, h.bl.trans (hb.mono h.bl.size), h.hg, h.hx, h.short⟩
theorem WD.back {w wr : World} {g x k : Nat} {v0 v1 vl : Value} {d : DiskM} (h : WD w wr g x k v0 v1 vl d) (side at_ : Int) (t : ByteArray) (ht : t.size ≤ 1000) :
    Box (((wr.setCell ⟨w.heap.size, 0, none⟩ v0).setCell ⟨w.heap.size, 1, none⟩ v1).setCell ⟨w.heap.size, 2, none⟩ vl) x [v0, v1, vl] ∧
    DrawnW w (.returned (.tuple #[.agg #[v0, v1, vl], .int .i64 side, .int .i64 at_, .string t])) (((wr.setCell ⟨w.heap.size, 0, none⟩ v0).setCell ⟨w.heap.size, 1, none⟩ v1).setCell ⟨w.heap.size, 2, none⟩ vl) := by
  have hg := h.hg
  have hx := h.lt
  refine ⟨((h.xo.other (by simp; omega) _).other (by simp; omega) _).other (by simp; omega) _, d, side, at_, t, v0, v1, vl, rfl, (h.own.set3 (by simp; omega) (by simp; omega) (by simp; omega)).base (by omega), h.short, ht, Below.set3 h.bl (Nat.le_refl _) _ _ _⟩

set_option maxHeartbeats 4000000 in
theorem drawDiskWrite_of (hD : ∀ (g k : Nat) (w : World), Rd w g k → k ≤ 1000 → Calls Try.prog 26 #[.pointer (some ⟨g, 0, none⟩)] w fun e w' => ∃ (d : DiskM) (v0 v1 vl : Value) (k' : Nat), e = .returned (.agg #[v0, v1, vl]) ∧ DiskOwn w' w.heap.size v0 v1 vl d ∧ DiskShort d ∧ k' ≤ 5000 ∧ w.grownBy w' (some g) ∧ Rd w' g k')
    (A : Option Addr) (n c : Nat) (w : World) (hA : Code w A n c) : Calls Try.prog 7 #[.slice A n c] w (DrawnW w) := by
  have HD := Lib.hid hD
  clear hD
  have hn0 := Below.new (w := w) (.cells #[.slice none 0 0, .slice none 0 0, .slice none 0 0] 27)
  have C0 := Lib.hid (hA.below hn0)
  have X0 := Lib.hid (box_new w #[.slice none 0 0, .slice none 0 0, .slice none 0 0] 27)
  have B0 := Lib.hid hn0
  clear hn0 hA
  go_enter Try.func7, Try.ntmps7
  go_upto_region 1 with fail
  have hz0 : (w.alloc (.cells #[.slice none 0 0, .slice none 0 0, .slice none 0 0] 27)).heap.size = w.heap.size + 1 := by simp
  generalize w.alloc (.cells #[.slice none 0 0, .slice none 0 0, .slice none 0 0] 27) = w0 at C0 X0 B0 hz0 ⊢
  go_wp2_with fail
  refine (l19Open_any A n c w0 C0.out).mono ?_
  rintro e w1 ⟨rfl, hb1, hr1⟩
  have X1 := Lib.hid (X0.out.below hb1 (by omega))
  have B1 := Lib.hid (B0.out.trans (hb1.mono (by omega)))
  have R1 := Lib.hid hr1
  have hg : w.heap.size < w0.heap.size := by omega
  have hgl := hr1.lt
  clear hb1 hr1 C0 X0 B0 hz0
  generalize w0.heap.size = g at R1 hg hgl ⊢
  go_wp2_with fail
  refine (HD.out g 0 _ R1.out (by omega)).mono ?_
  rintro e w2 ⟨d, v0, v1, vl, k2, rfl, ho, hs, hk2, hg2, hr2⟩
  obtain ⟨A0, c0, A1, c1, Al, cl, rfl, rfl, rfl⟩ := ho.forms
  have hn2 := Below.new (w := w2) (.cells #[.slice A0 d.s0.length c0, .slice A1 d.s1.length c1, .slice Al d.late.length cl] 27)
  have D2 := Lib.hid (show WD w (w2.alloc (.cells #[.slice A0 d.s0.length c0, .slice A1 d.s1.length c1, .slice Al d.late.length cl] 27)) g w2.heap.size k2 (.slice A0 d.s0.length c0) (.slice A1 d.s1.length c1) (.slice Al d.late.length cl) d from
    ⟨(box_grownG X1.out hg2 (Nat.ne_of_lt hg)).alloc _, box_new _ _ _, (ho.below hn2).base (by omega), hr2.below hn2, (B1.out.grown hg2 B1.out.size (fun k e => by injection e with e; omega)).trans (hn2.mono (Nat.le_trans B1.out.size hg2.size)), hg, Nat.lt_of_lt_of_le hgl hg2.size, hs⟩)
  clear ho hs hg2 hr2 hn2 X1 B1 R1 HD
  go_upto_region 3 with fail
  generalize w2.alloc (.cells #[.slice A0 d.s0.length c0, .slice A1 d.s1.length c1, .slice Al d.late.length cl] 27) = W2 at D2 ⊢
  generalize w2.heap.size = X at D2 ⊢
  have hn3 := Below.new (w := W2) (.cells (ics [0, 0, 1, 1, -1, 2]).toArray 3)
  have D3 := Lib.hid (D2.out.below hn3)
  have H3 : (W2.alloc (.cells (ics [0, 0, 1, 1, -1, 2]).toArray 3)).heap[W2.heap.size]? = some (.cells (ics [0, 0, 1, 1, -1, 2]).toArray 3 (0, 0)) := heap_alloc_new _ _
  have hne : W2.heap.size ≠ g := by have := D2.out.rd.lt; omega
  have HH3 := Lib.hid H3
  clear hn3 D2 H3
  go_wp2_with fail
  refine (num_op g k2 W2.heap.size 6 [0, 0, 1, 1, -1, 2] 3 (0, 0) _ D3.out.rd (by omega) HH3.out hne rfl (by omega) (by omega)).mono ?_
  rintro e w3 ⟨z, _, rfl, hg3, hr3⟩
  have D4 := Lib.hid (D3.out.grown hg3 hr3)
  clear hg3 hr3 D3 HH3 hne
  go_wp2_with fail
  refine (pickW8 g (k2 + 1) _ D4.out.rd (by omega)).mono ?_
  rintro e w8 ⟨r8, hr8, rfl, hg8, hq8⟩
  have D8 := Lib.hid (D4.out.grown hg8 hq8)
  have hs8 : IntKind.i64.wrap ((r8 : Int) - 1) = (r8 : Int) - 1 := IntWalk.i64_in _ (by omega)
  clear hg8 hq8 D4
  go_wp2_with fail
  refine (pickW20 g (k2 + 1 + 1) _ D8.out.rd (by omega)).mono ?_
  rintro e w20 ⟨r20, hr20, rfl, hg20, hq20⟩
  have D20 := Lib.hid (D8.out.grown hg20 hq20)
  clear hg20 hq20 D8
  by_cases h0 : r20 = 0
  · subst h0
    go_upto_region 6 with fail
    have hD0 := WD.below D20.out (Below.drew (Below.refl _ w20))
    refine wp_region_held_drew (S := fun w' => Box w' X [.slice A0 d.s0.length c0, .slice A1 d.s1.length c1, .slice Al d.late.length cl]) (by kernel_rfl) hD0.xo (fun hHeld => ?_)
    generalize w20.drew = wd at hHeld hD0 ⊢
    refine wpAnyH_take (i := 0) (v := ?_) rfl (by kernel_rfl) (by kernel_rfl) (by kernel_rfl) (fun _ _ _ h => h) (Or.inl ⟨by rfl, ?_⟩) (by assumption) ?_
    rotate_left
    · (intro w' hSw; obtain ⟨hx0, hx1, hx2⟩ := Box.three hSw; go_simp; try with_reducible rfl)
    try simp only [Act.put]
    refine wpAnyH_take (i := 1) (v := ?_) rfl (by kernel_rfl) (by kernel_rfl) (by kernel_rfl) (fun _ _ _ h => h) (Or.inl ⟨by rfl, ?_⟩) (by assumption) ?_
    rotate_left
    · (intro w' hSw; obtain ⟨hx0, hx1, hx2⟩ := Box.three hSw; go_simp; try with_reducible rfl)
    try simp only [Act.put]
    refine wpAnyH_take (i := 2) (v := ?_) rfl (by kernel_rfl) (by kernel_rfl) (by kernel_rfl) (fun _ _ _ h => h) (Or.inl ⟨by rfl, ?_⟩) (by assumption) ?_
    rotate_left
    · (intro w' hSw; obtain ⟨hx0, hx1, hx2⟩ := Box.three hSw; go_simp; try with_reducible rfl)
    try simp only [Act.put]
    refine wpAnyH_take (i := 3) (v := ?_) rfl (by kernel_rfl) (by kernel_rfl) (by kernel_rfl) (fun _ _ _ h => h) (Or.inl ⟨by rfl, ?_⟩) (by assumption) ?_
    rotate_left
    · (intro w' hSw; obtain ⟨hx0, hx1, hx2⟩ := Box.three hSw; go_simp; try with_reducible rfl)
    try simp only [Act.put]
    refine wpAnyH_ready (rs := [4]) (by kernel_rfl) (by simp) ?_
    refine AllReadyH.cons rfl (fun K hK => ?_) (AllReadyH.nil)
    go_simp
    go_at_call 28
    refine (pickW2 g (k2 + 1 + 1 + 1) _ (WD.rd hD0) (by omega)).mono ?_
    rintro e wt1 ⟨r2, hr2, rfl, hg1, hR1⟩
    have hD1 := WD.grown hD0 hg1 hR1
    have hw4 : IntKind.i64.wrap (420 + (r2 : Int)) = 420 + (r2 : Int) := IntWalk.i64_in _ (by omega)
    go_wp2_with fail
    refine hK.out _ _ (WD.xo hD1) (fun hHeld1 => ?_)
    clear hK K
    try simp only [Act.put]
    refine wpAnyH_take (i := 5) (v := ?_) rfl (by kernel_rfl) (by kernel_rfl) (by kernel_rfl) (fun _ _ _ h => h) (Or.inl ⟨by rfl, ?_⟩) (by assumption) ?_
    rotate_left
    · (intro w' hSw; obtain ⟨hx0, hx1, hx2⟩ := Box.three hSw; go_simp; try with_reducible rfl)
    try simp only [Act.put]
    refine wpAnyH_ready (rs := [6]) (by kernel_rfl) (by simp) ?_
    refine AllReadyH.cons rfl (fun K hK => ?_) (AllReadyH.nil)
    go_simp
    go_at_call 29
    refine (many_int 120 (420 + (r2 : Int)) _ (by omega) (by omega)).mono ?_
    rintro e wt2 ⟨tx, htx, rfl, hb2⟩
    have hD2 := WD.below hD1 hb2
    go_wp2_with fail
    refine hK.out _ _ (WD.xo hD2) (fun hHeld2 => ?_)
    clear hK K
    try simp only [Act.put]
    refine wpAnyH_ready (rs := [7]) (by kernel_rfl) (by simp) ?_
    refine AllReadyH.cons rfl (fun K hK => ?_) (AllReadyH.nil)
    obtain ⟨n0, n1, n2⟩ := Box.three (WD.xr hD2)
    have q0 := Box.open_ (WD.xr hD2) 0
    have q1 := Box.open_ (WD.xr hD2) 1
    have q2 := Box.open_ (WD.xr hD2) 2
    have hxw : w.heap.size < X := WD.lt hD2
    have hF := WD.back hD2 z ((r8 : Int) - 1) tx (by omega)
    have Q1 := Lib.hid ((WD.xr hD2).set 0 (.slice A0 d.s0.length c0))
    have Q2 := Lib.hid (Q1.out.set 1 (.slice A1 d.s1.length c1))
    have Q3 := Lib.hid (Q2.out.set 2 (.slice Al d.late.length cl))
    go_simp
    refine hK.out _ _ hF.1 (fun hHeld3 => ?_)
    clear hK K
    try simp only [Act.put]
    refine wpAnyH_take (i := 8) (v := ?_) rfl (by kernel_rfl) (by kernel_rfl) (by kernel_rfl) (fun _ _ _ h => h) (Or.inl ⟨by rfl, ?_⟩) (by assumption) ?_
    rotate_left
    · (intro w' hSw; obtain ⟨hx0, hx1, hx2⟩ := Box.three hSw; go_simp; try with_reducible rfl)
    try simp only [Act.put]
    refine wpAnyH_take (i := 9) (v := ?_) rfl (by kernel_rfl) (by kernel_rfl) (by kernel_rfl) (fun _ _ _ h => h) (Or.inl ⟨by rfl, ?_⟩) (by assumption) ?_
    rotate_left
    · (intro w' hSw; obtain ⟨hx0, hx1, hx2⟩ := Box.three hSw; go_simp; try with_reducible rfl)
    try simp only [Act.put]
    refine wpAnyH_take (i := 10) (v := ?_) rfl (by kernel_rfl) (by kernel_rfl) (by kernel_rfl) (fun _ _ _ h => h) (Or.inl ⟨by rfl, ?_⟩) (by assumption) ?_
    rotate_left
    · (intro w' hSw; obtain ⟨hx0, hx1, hx2⟩ := Box.three hSw; go_simp; try with_reducible rfl)
    try simp only [Act.put]
    refine wpAnyH_done (by kernel_rfl) ?_ _
    go_simp
    clear hHeld n0 n1 n2 q0 q1 q2
    go_wp2
    exact bodyPost_ret (v := .tuple #[.agg #[.slice A0 d.s0.length c0, .slice A1 d.s1.length c1, .slice Al d.late.length cl], .int .i64 z, .int .i64 ((r8 : Int) - 1), .string tx]) (by simp [results, Try.results7, go_sem, Q1.out.cell 0 rfl, Q2.out.cell 1 rfl, Q3.out.cell 2 rfl]) rfl hF.2
  · have hb0 : ((r20 : Int) == 0) = false := beq_eq_false_iff_ne.2 (by omega)
    go_upto_region 7 with fail
    have hD0 := WD.below D20.out (Below.drew (Below.refl _ w20))
    refine wp_region_held_drew (S := fun w' => Box w' X [.slice A0 d.s0.length c0, .slice A1 d.s1.length c1, .slice Al d.late.length cl]) (by kernel_rfl) hD0.xo (fun hHeld => ?_)
    generalize w20.drew = wd at hHeld hD0 ⊢
    refine wpAnyH_take (i := 0) (v := ?_) rfl (by kernel_rfl) (by kernel_rfl) (by kernel_rfl) (fun _ _ _ h => h) (Or.inl ⟨by rfl, ?_⟩) (by assumption) ?_
    rotate_left
    · (intro w' hSw; obtain ⟨hx0, hx1, hx2⟩ := Box.three hSw; go_simp; try with_reducible rfl)
    try simp only [Act.put]
    refine wpAnyH_take (i := 1) (v := ?_) rfl (by kernel_rfl) (by kernel_rfl) (by kernel_rfl) (fun _ _ _ h => h) (Or.inl ⟨by rfl, ?_⟩) (by assumption) ?_
    rotate_left
    · (intro w' hSw; obtain ⟨hx0, hx1, hx2⟩ := Box.three hSw; go_simp; try with_reducible rfl)
    try simp only [Act.put]
    refine wpAnyH_take (i := 2) (v := ?_) rfl (by kernel_rfl) (by kernel_rfl) (by kernel_rfl) (fun _ _ _ h => h) (Or.inl ⟨by rfl, ?_⟩) (by assumption) ?_
    rotate_left
    · (intro w' hSw; obtain ⟨hx0, hx1, hx2⟩ := Box.three hSw; go_simp; try with_reducible rfl)
    try simp only [Act.put]
    refine wpAnyH_take (i := 3) (v := ?_) rfl (by kernel_rfl) (by kernel_rfl) (by kernel_rfl) (fun _ _ _ h => h) (Or.inl ⟨by rfl, ?_⟩) (by assumption) ?_
    rotate_left
    · (intro w' hSw; obtain ⟨hx0, hx1, hx2⟩ := Box.three hSw; go_simp; try with_reducible rfl)
    try simp only [Act.put]
    refine wpAnyH_ready (rs := [4]) (by kernel_rfl) (by simp) ?_
    refine AllReadyH.cons rfl (fun K hK => ?_) (AllReadyH.nil)
    go_simp
    go_at_call 30
    refine (l1Text_any g (k2 + 1 + 1 + 1) _ (WD.rd hD0) (by omega)).mono ?_
    rintro e wt1 ⟨tx, kc, htx, hkc, rfl, hg1, hR1⟩
    have hD1 := WD.grown hD0 hg1 hR1
    go_wp2_with fail
    refine hK.out _ _ (WD.xo hD1) (fun hHeld1 => ?_)
    clear hK K
    try simp only [Act.put]
    refine wpAnyH_ready (rs := [5]) (by kernel_rfl) (by simp) ?_
    refine AllReadyH.cons rfl (fun K hK => ?_) (AllReadyH.nil)
    obtain ⟨n0, n1, n2⟩ := Box.three (WD.xr hD1)
    have q0 := Box.open_ (WD.xr hD1) 0
    have q1 := Box.open_ (WD.xr hD1) 1
    have q2 := Box.open_ (WD.xr hD1) 2
    have hxw : w.heap.size < X := WD.lt hD1
    have hF := WD.back hD1 z ((r8 : Int) - 1) tx (by omega)
    have Q1 := Lib.hid ((WD.xr hD1).set 0 (.slice A0 d.s0.length c0))
    have Q2 := Lib.hid (Q1.out.set 1 (.slice A1 d.s1.length c1))
    have Q3 := Lib.hid (Q2.out.set 2 (.slice Al d.late.length cl))
    go_simp
    refine hK.out _ _ hF.1 (fun hHeld2 => ?_)
    clear hK K
    try simp only [Act.put]
    refine wpAnyH_take (i := 6) (v := ?_) rfl (by kernel_rfl) (by kernel_rfl) (by kernel_rfl) (fun _ _ _ h => h) (Or.inl ⟨by rfl, ?_⟩) (by assumption) ?_
    rotate_left
    · (intro w' hSw; obtain ⟨hx0, hx1, hx2⟩ := Box.three hSw; go_simp; try with_reducible rfl)
    try simp only [Act.put]
    refine wpAnyH_take (i := 7) (v := ?_) rfl (by kernel_rfl) (by kernel_rfl) (by kernel_rfl) (fun _ _ _ h => h) (Or.inl ⟨by rfl, ?_⟩) (by assumption) ?_
    rotate_left
    · (intro w' hSw; obtain ⟨hx0, hx1, hx2⟩ := Box.three hSw; go_simp; try with_reducible rfl)
    try simp only [Act.put]
    refine wpAnyH_take (i := 8) (v := ?_) rfl (by kernel_rfl) (by kernel_rfl) (by kernel_rfl) (fun _ _ _ h => h) (Or.inl ⟨by rfl, ?_⟩) (by assumption) ?_
    rotate_left
    · (intro w' hSw; obtain ⟨hx0, hx1, hx2⟩ := Box.three hSw; go_simp; try with_reducible rfl)
    try simp only [Act.put]
    refine wpAnyH_done (by kernel_rfl) ?_ _
    go_simp
    clear hHeld n0 n1 n2 q0 q1 q2
    go_wp2
    exact bodyPost_ret (v := .tuple #[.agg #[.slice A0 d.s0.length c0, .slice A1 d.s1.length c1, .slice Al d.late.length cl], .int .i64 z, .int .i64 ((r8 : Int) - 1), .string tx]) (by simp [results, Try.results7, go_sem, Q1.out.cell 0 rfl, Q2.out.cell 1 rfl, Q3.out.cell 2 rfl]) rfl hF.2
end Go.Proofs.Ytfacbjldpenpjaa
