/-
  spec's l3Disk and DrawBlkWrite: a disk of written blocks, a place and a text are drawn.
-/
import Derived.Test.YtfcfgdpelbljnaaGreatDoorDrawDisk2
import Derived.Test.YtfcfgdpelbljnaaGreatDoorDrawDW
import Derived.Test.YtfcfgdpelbljnaaGreatDoorBlkW
import Derived.Deep.CutRange
import Derived.Deep.RegionHeld3
set_option maxRecDepth 100000
namespace Go.Proofs.YtfcfgdpelbljnaaGreatDoor
open Go.ChangeShapes Go.WideShapes Go.ChangeAt Go.RowKit Go.Proofs.Palim

theorem pick_3 (g k : Nat) (w : World) (hr : Rd w g k) (hk : k ≤ 1000000) :
    Calls Tryz.prog 36 #[.pointer (some ⟨g, 0, none⟩), .int .i64 3] w fun e w' => ∃ r : Nat, r < 3 ∧ e = .returned (.int .i64 (r : Int)) ∧ w.grownBy w' (some g) ∧ Rd w' g (k + 1) := pick_op g k 3 w hr hk (by omega) (by omega)
theorem pick_16 (g k : Nat) (w : World) (hr : Rd w g k) (hk : k ≤ 1000000) :
    Calls Tryz.prog 36 #[.pointer (some ⟨g, 0, none⟩), .int .i64 16] w fun e w' => ∃ r : Nat, r < 16 ∧ e = .returned (.int .i64 (r : Int)) ∧ w.grownBy w' (some g) ∧ Rd w' g (k + 1) := pick_op g k 16 w hr hk (by omega) (by omega)
theorem of_op (g k h L : Nat) (ss : List ByteArray) (t : TypeId) (fr : Nat × Nat) (w : World) (hr : Rd w g k) (hk : k ≤ 1000000) (hh : w.heap[h]? = some (.cells (scs ss).toArray t fr)) (hgh : h ≠ g) (hL : ss.length = L) (hs0 : 0 < L) (hs1 : L ≤ 1000) :
    Calls Tryz.prog 41 #[.pointer (some ⟨g, 0, none⟩), .slice (some ⟨h, 0, none⟩) L L] w fun e w' => ∃ s : ByteArray, s ∈ ss ∧ e = .returned (.string s) ∧ w.grownBy w' (some g) ∧ Rd w' g (k + 1) := by
  refine (of_any g k h L ss t fr w hr hk hh hgh hL hs0 hs1).mono ?_
  rintro e w' ⟨z, q, hz, rfl, rfl⟩
  exact ⟨z, hz, rfl, grown_pick (World.grownBy.refl w (some g)) _ q, hr.next q⟩
theorem bits3 : ∀ s ∈ ([⟨#[97]⟩, ⟨#[98, 98]⟩, ⟨#[120, 32, 121]⟩, ⟨#[97]⟩, ⟨#[]⟩] : List ByteArray), s.size ≤ 3 := by decide
theorem tiny_blk {d : DiskM} {at_ : Int} {text : ByteArray} (ht : text.size ≤ 1048576) (h : Tiny d) : Tiny (blkM d at_ text) := by
  unfold blkM
  split
  · exact tiny_no
  · split
    · exact h
    · split
      · exact tiny_write ht (tiny_write ht h)
      · exact tiny_write ht h
def DrawnB (w : World) (e : Ending) (w' : World) : Prop :=
  ∃ (d : DiskM) (at_ : Int) (text : ByteArray) (v0 v1 vl : Value), e = .returned (.tuple #[.agg #[v0, v1, vl], .int .i64 at_, .string text]) ∧ DiskOwn w' w.heap.size v0 v1 vl d ∧ DiskShort d ∧ text.size ≤ 1000 ∧ Below w.heap.size w w'
theorem WD.back3 {w wr : World} {g x k : Nat} {v0 v1 vl : Value} {d : DiskM} (h : WD w wr g x k v0 v1 vl d) (at_ : Int) (t : ByteArray) (ht : t.size ≤ 1000) :
    Box (((wr.setCell ⟨w.heap.size, 0, none⟩ v0).setCell ⟨w.heap.size, 1, none⟩ v1).setCell ⟨w.heap.size, 2, none⟩ vl) x [v0, v1, vl] ∧
    DrawnB w (.returned (.tuple #[.agg #[v0, v1, vl], .int .i64 at_, .string t])) (((wr.setCell ⟨w.heap.size, 0, none⟩ v0).setCell ⟨w.heap.size, 1, none⟩ v1).setCell ⟨w.heap.size, 2, none⟩ vl) := by
  have hg := h.hg
  have hx := h.lt
  refine ⟨((h.xo.other (by simp; omega) _).other (by simp; omega) _).other (by simp; omega) _, d, at_, t, v0, v1, vl, rfl, (h.own.set3 (by simp; omega) (by simp; omega) (by simp; omega)).base (by omega), h.short, ht, Below.set3 h.bl (Nat.le_refl _) _ _ _⟩

set_option maxHeartbeats 8000000 in
theorem l3Disk_any (g k : Nat) (w : World) (hr : Rd w g k) (hk : k ≤ 1000) :
    Calls Tryz.prog 15 #[.pointer (some ⟨g, 0, none⟩)] w (DrawnD w g) := by
  have hgl := hr.lt
  have hn0 := Below.new (w := w) (.cells #[.slice none 0 0, .slice none 0 0, .slice none 0 0] 32)
  have HR0 := Lib.hid (hr.below hn0)
  have X0 := Lib.hid (box_new w #[.slice none 0 0, .slice none 0 0, .slice none 0 0] 32)
  have G0 := Lib.hid (grown_below (World.grownBy.refl w (some g)) hn0)
  have hz0 : (w.alloc (.cells #[.slice none 0 0, .slice none 0 0, .slice none 0 0] 32)).heap.size = w.heap.size + 1 := by simp
  clear hn0 hr
  go_enter Tryz.func15, Tryz.ntmps15
  go_upto_region 1 with fail
  generalize w.alloc (.cells #[.slice none 0 0, .slice none 0 0, .slice none 0 0] 32) = w1 at HR0 X0 G0 hz0 ⊢
  go_wp2_with fail
  refine (DiskOpen_any 6 _ (by omega) (by omega)).mono ?_
  rintro e w2 ⟨u0, u1, ul, rfl, ho, hb⟩
  obtain ⟨U0, c0, U1, c1, Ul, cl, rfl, rfl, rfl⟩ := ho.forms
  have hn2 := Below.new (w := w2) (.cells #[.slice U0 (openM 6).s0.length c0, .slice U1 (openM 6).s1.length c1, .slice Ul (openM 6).late.length cl] 32)
  have L2 := Lib.hid (show LD w (w2.alloc (.cells #[.slice U0 (openM 6).s0.length c0, .slice U1 (openM 6).s1.length c1, .slice Ul (openM 6).late.length cl] 32)) g w2.heap.size k (.slice U0 (openM 6).s0.length c0) (.slice U1 (openM 6).s1.length c1) (.slice Ul (openM 6).late.length cl) (openM 6) from
    ⟨(X0.out.below hb (by omega)).alloc _, box_new _ _ _, (ho.below hn2).base (by omega), ho.reads.low.past (Nat.le_refl _), by have := hb.size; omega, (HR0.out.below hb).below hn2, grown_below (grown_below G0.out hb) hn2, tiny_open (by omega), hgl⟩)
  clear ho hb hn2 X0 G0 HR0 hz0
  generalize openM 6 = d at L2 ⊢
  go_upto_region 2 with fail
  generalize w2.alloc (.cells #[.slice U0 d.s0.length c0, .slice U1 d.s1.length c1, .slice Ul d.late.length cl] 32) = W2 at L2 ⊢
  generalize w2.heap.size = X at L2 ⊢
  go_wp2_with fail
  go_loopw [4] (fun i wr => ∃ (j kk : Nat) (d : DiskM) (u0 u1 ul : Value), 1 ≤ j ∧ j ≤ 6 ∧ i = .int .i64 (j : Int) ∧ kk ≤ k + j ∧ Hid (LD w wr g X kk u0 u1 ul d)) (fun i _ => 6 - (intOf i).toNat)
  case atStart => exact ⟨1, k, _, _, _, _, by omega, by omega, rfl, by omega, L2⟩
  case round =>
    clear L2
    obtain ⟨j, kk, d, u0, u1, ul, hj0, hj, rfl, hkk, L⟩ := hrel
    obtain ⟨A0, c0, A1, c1, Al, cl, rfl, rfl, rfl⟩ := L.out.own.forms
    by_cases hlt : j < 6
    · have hj1 : (j : Int) < 6 := by omega
      go_upto_region 5 with fail
      have hL0 := LD.below L.out (Below.drew (Below.refl _ wr))
      refine wp_region_held_drew (S := fun _ => True) (by kernel_rfl) trivial (fun hHeld => ?_)
      generalize wr.drew = wd at hL0 ⊢
      refine wpAnyH_take (i := 1) (v := ?_) rfl (by kernel_rfl) (by kernel_rfl) (by kernel_rfl) (fun _ _ _ h => h) (Or.inl ⟨by rfl, ?_⟩) (by assumption) ?_
      rotate_left
      · (intro w' hSw; go_simp; try with_reducible rfl)
      try simp only [Act.put]
      refine wpAnyH_take (i := 2) (v := ?_) rfl (by kernel_rfl) (by kernel_rfl) (by kernel_rfl) (fun _ _ _ h => h) (Or.inl ⟨by rfl, ?_⟩) (by assumption) ?_
      rotate_left
      · (intro w' hSw; go_simp; try with_reducible rfl)
      try simp only [Act.put]
      refine wpAnyH_ready (rs := [0, 3]) (by kernel_rfl) (by simp) ?_
      refine AllReadyH.cons rfl (fun K hK => ?_) (AllReadyH.cons rfl (fun K hK => ?_) (AllReadyH.nil))
      · have hway : True := trivial
        obtain ⟨x0, x1, x2⟩ := Box.three (LD.xo hL0)
        go_simp
        refine hK.out _ _ trivial (fun hHeld1 => ?_)
        clear hK K
        try simp only [Act.put]
        refine wpAnyH_ready (rs := [3]) (by kernel_rfl) (by simp) ?_
        refine AllReadyH.cons rfl (fun K hK => ?_) (AllReadyH.nil)
        have hnw2 := Below.new (w := wd) (.cells (scs [⟨#[97]⟩, ⟨#[98, 98]⟩, ⟨#[120, 32, 121]⟩, ⟨#[97]⟩, ⟨#[]⟩]).toArray 9)
        have hL2 := LD.below hL0 hnw2
        have hA2 : (wd.alloc (.cells (scs [⟨#[97]⟩, ⟨#[98, 98]⟩, ⟨#[120, 32, 121]⟩, ⟨#[97]⟩, ⟨#[]⟩]).toArray 9)).heap[wd.heap.size]? = some (.cells (scs [⟨#[97]⟩, ⟨#[98, 98]⟩, ⟨#[120, 32, 121]⟩, ⟨#[97]⟩, ⟨#[]⟩]).toArray 9 (0, 0)) := heap_alloc_new _ _
        have hne : wd.heap.size ≠ g := by have := (LD.rd hL0).lt; omega
        go_simp
        refine hK.out _ _ trivial (fun hHeld2 => ?_)
        clear hK K
        try simp only [Act.put]
        clear hnw2
        try (change wpAnyH _ _ _ _ _ _ _ _ (wd.alloc (.cells (scs [⟨#[97]⟩, ⟨#[98, 98]⟩, ⟨#[120, 32, 121]⟩, ⟨#[97]⟩, ⟨#[]⟩]).toArray 9)))
        generalize wd.alloc (.cells (scs [⟨#[97]⟩, ⟨#[98, 98]⟩, ⟨#[120, 32, 121]⟩, ⟨#[97]⟩, ⟨#[]⟩]).toArray 9) = wa2 at hL2 hA2 ⊢
        refine wpAnyH_ready (rs := [4]) (by kernel_rfl) (by simp) ?_
        refine AllReadyH.cons rfl (fun K hK => ?_) (AllReadyH.nil)
        go_simp
        go_at_call 41
        refine (of_op g (kk) (wd.heap.size) 5 [⟨#[97]⟩, ⟨#[98, 98]⟩, ⟨#[120, 32, 121]⟩, ⟨#[97]⟩, ⟨#[]⟩] 9 (0, 0) _ (LD.rd hL2) (by omega) hA2 hne rfl (by omega) (by omega)).mono ?_
        rintro e wt3 ⟨tx, htx0, rfl, hg3, hR3⟩
        have htx := bits3 tx htx0
        clear htx0
        have hL3 := LD.grown hL2 hg3 hR3
        go_wp2_with fail
        refine hK.out _ _ trivial (fun hHeld3 => ?_)
        clear hK K
        try simp only [Act.put]
        refine wpAnyH_ready (rs := [5]) (by kernel_rfl) (by simp) ?_
        refine AllReadyH.cons rfl (fun K hK => ?_) (AllReadyH.nil)
        go_simp
        go_at_call 40
        refine (specBlkWrite_any _ _ _ d (j : Int) tx _ (LD.own hL3).reads (LD.tiny hL3).short (by omega)).mono ?_
        rintro e wt4 ⟨s0, s1, sl, rfl, hso, hb4⟩
        have hL4 := LD.below hL3 hb4
        have hO4 := DiskOwn.base hso (show w.heap.size + 1 ≤ _ from Nat.le_trans (LD.hx hL3) (Nat.le_of_lt (Box.lt (LD.xo hL3))))
        have hsx := DiskOwn.past hso (Box.lt (LD.xo hL3))
        have hT := tiny_blk (at_ := (j : Int)) (text := tx) (by omega) (LD.tiny hL3)
        have hP := LD.put hL4 hO4 hsx hT
        obtain ⟨S0, m0, S1, m1, Sl_, ml, rfl, rfl, rfl⟩ := hso.forms
        go_wp2_with fail
        refine hK.out _ _ trivial (fun hHeld4 => ?_)
        clear hK K
        try simp only [Act.put]
        refine wpAnyH_take (i := 6) (v := ?_) rfl (by kernel_rfl) (by kernel_rfl) (by kernel_rfl) (fun _ _ _ h => h) (Or.inl ⟨by rfl, ?_⟩) (by assumption) ?_
        rotate_left
        · (intro w' hSw; go_simp; try with_reducible rfl)
        try simp only [Act.put]
        refine wpAnyH_take (i := 7) (v := ?_) rfl (by kernel_rfl) (by kernel_rfl) (by kernel_rfl) (fun _ _ _ h => h) (Or.inl ⟨by rfl, ?_⟩) (by assumption) ?_
        rotate_left
        · (intro w' hSw; go_simp; try with_reducible rfl)
        try simp only [Act.put]
        refine wpAnyH_take (i := 8) (v := ?_) rfl (by kernel_rfl) (by kernel_rfl) (by kernel_rfl) (fun _ _ _ h => h) (Or.inl ⟨by rfl, ?_⟩) (by assumption) ?_
        rotate_left
        · (intro w' hSw; go_simp; try with_reducible rfl)
        try simp only [Act.put]
        refine wpAnyH_ready (rs := [9]) (by kernel_rfl) (by simp) ?_
        refine AllReadyH.cons rfl (fun K hK => ?_) (AllReadyH.nil)
        obtain ⟨p0, p1, p2⟩ := Box.three (LD.xo hL4)
        have q0 := Box.open_ (LD.xo hL4) 0
        have q1 := Box.open_ (LD.xo hL4) 1
        have q2 := Box.open_ (LD.xo hL4) 2
        go_simp
        refine hK.out _ _ trivial (fun hHeld5 => ?_)
        clear hK K
        try simp only [Act.put]
        refine wpAnyH_done (by kernel_rfl) ?_ _
        go_simp
        go_wp2
        go_roundw
        case rel => exact ⟨j + 1, kk + 1, _, _, _, _, by omega, by omega, by go_num, by omega, Lib.hid hP⟩
        case measure => simp [intOf]; omega
      · have hway : True := trivial
        have hnw1 := Below.new (w := wd) (.cells (scs [⟨#[97]⟩, ⟨#[98, 98]⟩, ⟨#[120, 32, 121]⟩, ⟨#[97]⟩, ⟨#[]⟩]).toArray 9)
        have hL1 := LD.below hL0 hnw1
        have hA1 : (wd.alloc (.cells (scs [⟨#[97]⟩, ⟨#[98, 98]⟩, ⟨#[120, 32, 121]⟩, ⟨#[97]⟩, ⟨#[]⟩]).toArray 9)).heap[wd.heap.size]? = some (.cells (scs [⟨#[97]⟩, ⟨#[98, 98]⟩, ⟨#[120, 32, 121]⟩, ⟨#[97]⟩, ⟨#[]⟩]).toArray 9 (0, 0)) := heap_alloc_new _ _
        have hne : wd.heap.size ≠ g := by have := (LD.rd hL0).lt; omega
        go_simp
        refine hK.out _ _ trivial (fun hHeld1 => ?_)
        clear hK K
        try simp only [Act.put]
        clear hnw1
        try (change wpAnyH _ _ _ _ _ _ _ _ (wd.alloc (.cells (scs [⟨#[97]⟩, ⟨#[98, 98]⟩, ⟨#[120, 32, 121]⟩, ⟨#[97]⟩, ⟨#[]⟩]).toArray 9)))
        generalize wd.alloc (.cells (scs [⟨#[97]⟩, ⟨#[98, 98]⟩, ⟨#[120, 32, 121]⟩, ⟨#[97]⟩, ⟨#[]⟩]).toArray 9) = wa1 at hL1 hA1 ⊢
        refine wpAnyH_ready (rs := [0, 4]) (by kernel_rfl) (by simp) ?_
        refine AllReadyH.cons rfl (fun K hK => ?_) (AllReadyH.cons rfl (fun K hK => ?_) (AllReadyH.nil))
        · have hway : True := trivial
          obtain ⟨x0, x1, x2⟩ := Box.three (LD.xo hL1)
          go_simp
          refine hK.out _ _ trivial (fun hHeld2 => ?_)
          clear hK K
          try simp only [Act.put]
          refine wpAnyH_ready (rs := [4]) (by kernel_rfl) (by simp) ?_
          refine AllReadyH.cons rfl (fun K hK => ?_) (AllReadyH.nil)
          go_simp
          go_at_call 41
          refine (of_op g (kk) (wd.heap.size) 5 [⟨#[97]⟩, ⟨#[98, 98]⟩, ⟨#[120, 32, 121]⟩, ⟨#[97]⟩, ⟨#[]⟩] 9 (0, 0) _ (LD.rd hL1) (by omega) hA1 hne rfl (by omega) (by omega)).mono ?_
          rintro e wt3 ⟨tx, htx0, rfl, hg3, hR3⟩
          have htx := bits3 tx htx0
          clear htx0
          have hL3 := LD.grown hL1 hg3 hR3
          go_wp2_with fail
          refine hK.out _ _ trivial (fun hHeld3 => ?_)
          clear hK K
          try simp only [Act.put]
          refine wpAnyH_ready (rs := [5]) (by kernel_rfl) (by simp) ?_
          refine AllReadyH.cons rfl (fun K hK => ?_) (AllReadyH.nil)
          go_simp
          go_at_call 40
          refine (specBlkWrite_any _ _ _ d (j : Int) tx _ (LD.own hL3).reads (LD.tiny hL3).short (by omega)).mono ?_
          rintro e wt4 ⟨s0, s1, sl, rfl, hso, hb4⟩
          have hL4 := LD.below hL3 hb4
          have hO4 := DiskOwn.base hso (show w.heap.size + 1 ≤ _ from Nat.le_trans (LD.hx hL3) (Nat.le_of_lt (Box.lt (LD.xo hL3))))
          have hsx := DiskOwn.past hso (Box.lt (LD.xo hL3))
          have hT := tiny_blk (at_ := (j : Int)) (text := tx) (by omega) (LD.tiny hL3)
          have hP := LD.put hL4 hO4 hsx hT
          obtain ⟨S0, m0, S1, m1, Sl_, ml, rfl, rfl, rfl⟩ := hso.forms
          go_wp2_with fail
          refine hK.out _ _ trivial (fun hHeld4 => ?_)
          clear hK K
          try simp only [Act.put]
          refine wpAnyH_take (i := 6) (v := ?_) rfl (by kernel_rfl) (by kernel_rfl) (by kernel_rfl) (fun _ _ _ h => h) (Or.inl ⟨by rfl, ?_⟩) (by assumption) ?_
          rotate_left
          · (intro w' hSw; go_simp; try with_reducible rfl)
          try simp only [Act.put]
          refine wpAnyH_take (i := 7) (v := ?_) rfl (by kernel_rfl) (by kernel_rfl) (by kernel_rfl) (fun _ _ _ h => h) (Or.inl ⟨by rfl, ?_⟩) (by assumption) ?_
          rotate_left
          · (intro w' hSw; go_simp; try with_reducible rfl)
          try simp only [Act.put]
          refine wpAnyH_take (i := 8) (v := ?_) rfl (by kernel_rfl) (by kernel_rfl) (by kernel_rfl) (fun _ _ _ h => h) (Or.inl ⟨by rfl, ?_⟩) (by assumption) ?_
          rotate_left
          · (intro w' hSw; go_simp; try with_reducible rfl)
          try simp only [Act.put]
          refine wpAnyH_ready (rs := [9]) (by kernel_rfl) (by simp) ?_
          refine AllReadyH.cons rfl (fun K hK => ?_) (AllReadyH.nil)
          obtain ⟨p0, p1, p2⟩ := Box.three (LD.xo hL4)
          have q0 := Box.open_ (LD.xo hL4) 0
          have q1 := Box.open_ (LD.xo hL4) 1
          have q2 := Box.open_ (LD.xo hL4) 2
          go_simp
          refine hK.out _ _ trivial (fun hHeld5 => ?_)
          clear hK K
          try simp only [Act.put]
          refine wpAnyH_done (by kernel_rfl) ?_ _
          go_simp
          go_wp2
          go_roundw
          case rel => exact ⟨j + 1, kk + 1, _, _, _, _, by omega, by omega, by go_num, by omega, Lib.hid hP⟩
          case measure => simp [intOf]; omega
        · have hway : True := trivial
          go_simp
          go_at_call 41
          refine (of_op g (kk) (wd.heap.size) 5 [⟨#[97]⟩, ⟨#[98, 98]⟩, ⟨#[120, 32, 121]⟩, ⟨#[97]⟩, ⟨#[]⟩] 9 (0, 0) _ (LD.rd hL1) (by omega) hA1 hne rfl (by omega) (by omega)).mono ?_
          rintro e wt2 ⟨tx, htx0, rfl, hg2, hR2⟩
          have htx := bits3 tx htx0
          clear htx0
          have hL2 := LD.grown hL1 hg2 hR2
          go_wp2_with fail
          refine hK.out _ _ trivial (fun hHeld2 => ?_)
          clear hK K
          try simp only [Act.put]
          refine wpAnyH_ready (rs := [0]) (by kernel_rfl) (by simp) ?_
          refine AllReadyH.cons rfl (fun K hK => ?_) (AllReadyH.nil)
          obtain ⟨x0, x1, x2⟩ := Box.three (LD.xo hL2)
          go_simp
          refine hK.out _ _ trivial (fun hHeld3 => ?_)
          clear hK K
          try simp only [Act.put]
          refine wpAnyH_ready (rs := [5]) (by kernel_rfl) (by simp) ?_
          refine AllReadyH.cons rfl (fun K hK => ?_) (AllReadyH.nil)
          go_simp
          go_at_call 40
          refine (specBlkWrite_any _ _ _ d (j : Int) tx _ (LD.own hL2).reads (LD.tiny hL2).short (by omega)).mono ?_
          rintro e wt4 ⟨s0, s1, sl, rfl, hso, hb4⟩
          have hL4 := LD.below hL2 hb4
          have hO4 := DiskOwn.base hso (show w.heap.size + 1 ≤ _ from Nat.le_trans (LD.hx hL2) (Nat.le_of_lt (Box.lt (LD.xo hL2))))
          have hsx := DiskOwn.past hso (Box.lt (LD.xo hL2))
          have hT := tiny_blk (at_ := (j : Int)) (text := tx) (by omega) (LD.tiny hL2)
          have hP := LD.put hL4 hO4 hsx hT
          obtain ⟨S0, m0, S1, m1, Sl_, ml, rfl, rfl, rfl⟩ := hso.forms
          go_wp2_with fail
          refine hK.out _ _ trivial (fun hHeld4 => ?_)
          clear hK K
          try simp only [Act.put]
          refine wpAnyH_take (i := 6) (v := ?_) rfl (by kernel_rfl) (by kernel_rfl) (by kernel_rfl) (fun _ _ _ h => h) (Or.inl ⟨by rfl, ?_⟩) (by assumption) ?_
          rotate_left
          · (intro w' hSw; go_simp; try with_reducible rfl)
          try simp only [Act.put]
          refine wpAnyH_take (i := 7) (v := ?_) rfl (by kernel_rfl) (by kernel_rfl) (by kernel_rfl) (fun _ _ _ h => h) (Or.inl ⟨by rfl, ?_⟩) (by assumption) ?_
          rotate_left
          · (intro w' hSw; go_simp; try with_reducible rfl)
          try simp only [Act.put]
          refine wpAnyH_take (i := 8) (v := ?_) rfl (by kernel_rfl) (by kernel_rfl) (by kernel_rfl) (fun _ _ _ h => h) (Or.inl ⟨by rfl, ?_⟩) (by assumption) ?_
          rotate_left
          · (intro w' hSw; go_simp; try with_reducible rfl)
          try simp only [Act.put]
          refine wpAnyH_ready (rs := [9]) (by kernel_rfl) (by simp) ?_
          refine AllReadyH.cons rfl (fun K hK => ?_) (AllReadyH.nil)
          obtain ⟨p0, p1, p2⟩ := Box.three (LD.xo hL4)
          have q0 := Box.open_ (LD.xo hL4) 0
          have q1 := Box.open_ (LD.xo hL4) 1
          have q2 := Box.open_ (LD.xo hL4) 2
          go_simp
          refine hK.out _ _ trivial (fun hHeld5 => ?_)
          clear hK K
          try simp only [Act.put]
          refine wpAnyH_done (by kernel_rfl) ?_ _
          go_simp
          go_wp2
          go_roundw
          case rel => exact ⟨j + 1, kk + 1, _, _, _, _, by omega, by omega, by go_num, by omega, Lib.hid hP⟩
          case measure => simp [intOf]; omega
    · have hj1 : ¬ (j : Int) < 6 := by omega
      go_wp2_with fail
      refine (pick_2 g kk _ L.out.rd (by omega)).mono ?_
      rintro e w3 ⟨rf, hrf, rfl, hg3, hq3⟩
      have L3 := Lib.hid (L.out.grown hg3 hq3)
      clear hg3 hq3 L
      obtain ⟨kx, hkx⟩ : ∃ kx, kx = kk + 1 := ⟨_, rfl⟩
      rw [← hkx] at L3
      by_cases hf0 : rf = 0
      · subst hf0
        obtain ⟨x0, x1, x2⟩ := L3.out.xo.three
        go_wp2_with fail
        refine (DiskFlush_any _ _ _ d _ L3.out.own.reads L3.out.tiny.short).mono ?_
        rintro e w4 ⟨s0, s1, sl, rfl, hso, hb⟩
        have hL := LD.below L3.out hb
        have hO := DiskOwn.base hso (show w.heap.size + 1 ≤ _ from Nat.le_trans L3.out.hx (Nat.le_of_lt (Box.lt L3.out.xo)))
        have hsx := DiskOwn.past hso (Box.lt L3.out.xo)
        obtain ⟨S0, m0, S1, m1, Sl_, ml, rfl, rfl, rfl⟩ := hso.forms
        have LX := Lib.hid (LD.put hL hO hsx (tiny_flush L3.out.tiny))
        obtain ⟨p0, p1, p2⟩ := hL.xo.three
        have t0 := hL.xo.open_ 0
        have t1 := hL.xo.open_ 1
        have t2 := hL.xo.open_ 2
        clear hso hb hO hsx x0 x1 x2 L3
        go_upto_region 8 with fail
        generalize ((w4.setCell ⟨X, 0, none⟩ (.slice S0 (flushM d).s0.length m0)).setCell ⟨X, 1, none⟩ (.slice S1 (flushM d).s1.length m1)).setCell ⟨X, 2, none⟩ (.slice Sl_ (flushM d).late.length ml) = wX at LX ⊢
        clear p0 p1 p2 t0 t1 t2 hL
        go_wp2_with fail
        refine (pick_3 g kx _ LX.out.rd (by omega)).mono ?_
        rintro e w8 ⟨r3, hr3, rfl, hg8, hq8⟩
        have L8 := Lib.hid (LX.out.grown hg8 hq8)
        clear hg8 hq8 LX
        go_wp2_with fail
        go_loopw [5] (fun i wr => ∃ (j kk : Nat) (d : DiskM) (u0 u1 ul : Value), j ≤ 2 ∧ i = .int .i64 (j : Int) ∧ kk + 40 * j ≤ k + 300 ∧ Hid (LD w wr g X kk u0 u1 ul d)) (fun i _ => (intOf i).toNat)
        case atStart => exact ⟨r3, kx + 1, _, _, _, _, by omega, rfl, by omega, L8⟩
        case round =>
          clear L8
          obtain ⟨j, kk, d, u0, u1, ul, hj, rfl, hkk, L⟩ := hrel
          obtain ⟨A0, c0, A1, c1, Al, cl, rfl, rfl, rfl⟩ := L.out.own.forms
          by_cases hlt : 0 < j
          · have hj1 : (0 : Int) < (j : Int) := by omega
            go_upto_region 11 with fail
            have hL0 := LD.below L.out (Below.drew (Below.refl _ wr))
            refine wp_region_held_drew (S := fun _ => True) (by kernel_rfl) trivial (fun hHeld => ?_)
            generalize wr.drew = wd at hL0 ⊢
            refine wpAnyH_take (i := 1) (v := ?_) rfl (by kernel_rfl) (by kernel_rfl) (by kernel_rfl) (fun _ _ _ h => h) (Or.inl ⟨by rfl, ?_⟩) (by assumption) ?_
            rotate_left
            · (intro w' hSw; go_simp; try with_reducible rfl)
            try simp only [Act.put]
            refine wpAnyH_take (i := 3) (v := ?_) rfl (by kernel_rfl) (by kernel_rfl) (by kernel_rfl) (fun _ _ _ h => h) (Or.inl ⟨by rfl, ?_⟩) (by assumption) ?_
            rotate_left
            · (intro w' hSw; go_simp; try with_reducible rfl)
            try simp only [Act.put]
            refine wpAnyH_take (i := 5) (v := ?_) rfl (by kernel_rfl) (by kernel_rfl) (by kernel_rfl) (fun _ _ _ h => h) (Or.inl ⟨by rfl, ?_⟩) (by assumption) ?_
            rotate_left
            · (intro w' hSw; go_simp; try with_reducible rfl)
            try simp only [Act.put]
            refine wpAnyH_ready (rs := [0, 2]) (by kernel_rfl) (by simp) ?_
            refine AllReadyH.cons rfl (fun K hK => ?_) (AllReadyH.cons rfl (fun K hK => ?_) (AllReadyH.nil))
            · have hway : True := trivial
              obtain ⟨x0, x1, x2⟩ := Box.three (LD.xo hL0)
              go_simp
              refine hK.out _ _ trivial (fun hHeld1 => ?_)
              clear hK K
              try simp only [Act.put]
              refine wpAnyH_ready (rs := [2]) (by kernel_rfl) (by simp) ?_
              refine AllReadyH.cons rfl (fun K hK => ?_) (AllReadyH.nil)
              go_simp
              go_at_call 36
              refine (pick_2 g (kk) _ (LD.rd hL0) (by omega)).mono ?_
              rintro e wt2 ⟨ra, hra, rfl, hg2, hR2⟩
              have hL2 := LD.grown hL0 hg2 hR2
              go_wp2_with fail
              refine hK.out _ _ trivial (fun hHeld2 => ?_)
              clear hK K
              try simp only [Act.put]
              refine wpAnyH_ready (rs := [4]) (by kernel_rfl) (by simp) ?_
              refine AllReadyH.cons rfl (fun K hK => ?_) (AllReadyH.nil)
              go_simp
              go_at_call 36
              refine (pick_6 g (kk + 1) _ (LD.rd hL2) (by omega)).mono ?_
              rintro e wt3 ⟨rb, hrb, rfl, hg3, hR3⟩
              have hL3 := LD.grown hL2 hg3 hR3
              go_wp2_with fail
              refine hK.out _ _ trivial (fun hHeld3 => ?_)
              clear hK K
              try simp only [Act.put]
              refine wpAnyH_ready (rs := [6]) (by kernel_rfl) (by simp) ?_
              refine AllReadyH.cons rfl (fun K hK => ?_) (AllReadyH.nil)
              go_simp
              go_at_call 44
              refine (l1Text_any g (kk + 1 + 1) _ (LD.rd hL3) (by omega)).mono ?_
              rintro e wt4 ⟨tx, kc, htx, hkc, rfl, hg4, hR4⟩
              have hL4 := LD.grown hL3 hg4 hR4
              go_wp2_with fail
              refine hK.out _ _ trivial (fun hHeld4 => ?_)
              clear hK K
              try simp only [Act.put]
              refine wpAnyH_ready (rs := [7]) (by kernel_rfl) (by simp) ?_
              refine AllReadyH.cons rfl (fun K hK => ?_) (AllReadyH.nil)
              go_simp
              go_at_call 43
              refine (DiskWrite_any _ _ _ d _ _ tx _ (LD.own hL4).reads (LD.tiny hL4).short (by unfold maxLen; omega)).mono ?_
              rintro e wt5 ⟨s0, s1, sl, rfl, hso, hb5⟩
              have hL5 := LD.below hL4 hb5
              have hO5 := DiskOwn.base hso (show w.heap.size + 1 ≤ _ from Nat.le_trans (LD.hx hL4) (Nat.le_of_lt (Box.lt (LD.xo hL4))))
              have hsx := DiskOwn.past hso (Box.lt (LD.xo hL4))
              have hT := tiny_write (side := (ra : Int)) (at_ := (rb : Int)) (text := tx) (by omega) (LD.tiny hL4)
              have hP := LD.put hL5 hO5 hsx hT
              obtain ⟨S0, m0, S1, m1, Sl_, ml, rfl, rfl, rfl⟩ := hso.forms
              go_wp2_with fail
              refine hK.out _ _ trivial (fun hHeld5 => ?_)
              clear hK K
              try simp only [Act.put]
              refine wpAnyH_take (i := 8) (v := ?_) rfl (by kernel_rfl) (by kernel_rfl) (by kernel_rfl) (fun _ _ _ h => h) (Or.inl ⟨by rfl, ?_⟩) (by assumption) ?_
              rotate_left
              · (intro w' hSw; go_simp; try with_reducible rfl)
              try simp only [Act.put]
              refine wpAnyH_take (i := 9) (v := ?_) rfl (by kernel_rfl) (by kernel_rfl) (by kernel_rfl) (fun _ _ _ h => h) (Or.inl ⟨by rfl, ?_⟩) (by assumption) ?_
              rotate_left
              · (intro w' hSw; go_simp; try with_reducible rfl)
              try simp only [Act.put]
              refine wpAnyH_take (i := 10) (v := ?_) rfl (by kernel_rfl) (by kernel_rfl) (by kernel_rfl) (fun _ _ _ h => h) (Or.inl ⟨by rfl, ?_⟩) (by assumption) ?_
              rotate_left
              · (intro w' hSw; go_simp; try with_reducible rfl)
              try simp only [Act.put]
              refine wpAnyH_ready (rs := [11]) (by kernel_rfl) (by simp) ?_
              refine AllReadyH.cons rfl (fun K hK => ?_) (AllReadyH.nil)
              obtain ⟨p0, p1, p2⟩ := Box.three (LD.xo hL5)
              have q0 := Box.open_ (LD.xo hL5) 0
              have q1 := Box.open_ (LD.xo hL5) 1
              have q2 := Box.open_ (LD.xo hL5) 2
              go_simp
              refine hK.out _ _ trivial (fun hHeld6 => ?_)
              clear hK K
              try simp only [Act.put]
              refine wpAnyH_done (by kernel_rfl) ?_ _
              go_simp
              go_wp2
              go_roundw
              case rel => exact ⟨j - 1, kc, _, _, _, _, by omega, by go_num, by omega, Lib.hid hP⟩
              case measure => simp [intOf]; omega
            · have hway : True := trivial
              go_simp
              go_at_call 36
              refine (pick_2 g (kk) _ (LD.rd hL0) (by omega)).mono ?_
              rintro e wt1 ⟨ra, hra, rfl, hg1, hR1⟩
              have hL1 := LD.grown hL0 hg1 hR1
              go_wp2_with fail
              refine hK.out _ _ trivial (fun hHeld1 => ?_)
              clear hK K
              try simp only [Act.put]
              refine wpAnyH_ready (rs := [0, 4]) (by kernel_rfl) (by simp) ?_
              refine AllReadyH.cons rfl (fun K hK => ?_) (AllReadyH.cons rfl (fun K hK => ?_) (AllReadyH.nil))
              · have hway : True := trivial
                obtain ⟨x0, x1, x2⟩ := Box.three (LD.xo hL1)
                go_simp
                refine hK.out _ _ trivial (fun hHeld2 => ?_)
                clear hK K
                try simp only [Act.put]
                refine wpAnyH_ready (rs := [4]) (by kernel_rfl) (by simp) ?_
                refine AllReadyH.cons rfl (fun K hK => ?_) (AllReadyH.nil)
                go_simp
                go_at_call 36
                refine (pick_6 g (kk + 1) _ (LD.rd hL1) (by omega)).mono ?_
                rintro e wt3 ⟨rb, hrb, rfl, hg3, hR3⟩
                have hL3 := LD.grown hL1 hg3 hR3
                go_wp2_with fail
                refine hK.out _ _ trivial (fun hHeld3 => ?_)
                clear hK K
                try simp only [Act.put]
                refine wpAnyH_ready (rs := [6]) (by kernel_rfl) (by simp) ?_
                refine AllReadyH.cons rfl (fun K hK => ?_) (AllReadyH.nil)
                go_simp
                go_at_call 44
                refine (l1Text_any g (kk + 1 + 1) _ (LD.rd hL3) (by omega)).mono ?_
                rintro e wt4 ⟨tx, kc, htx, hkc, rfl, hg4, hR4⟩
                have hL4 := LD.grown hL3 hg4 hR4
                go_wp2_with fail
                refine hK.out _ _ trivial (fun hHeld4 => ?_)
                clear hK K
                try simp only [Act.put]
                refine wpAnyH_ready (rs := [7]) (by kernel_rfl) (by simp) ?_
                refine AllReadyH.cons rfl (fun K hK => ?_) (AllReadyH.nil)
                go_simp
                go_at_call 43
                refine (DiskWrite_any _ _ _ d _ _ tx _ (LD.own hL4).reads (LD.tiny hL4).short (by unfold maxLen; omega)).mono ?_
                rintro e wt5 ⟨s0, s1, sl, rfl, hso, hb5⟩
                have hL5 := LD.below hL4 hb5
                have hO5 := DiskOwn.base hso (show w.heap.size + 1 ≤ _ from Nat.le_trans (LD.hx hL4) (Nat.le_of_lt (Box.lt (LD.xo hL4))))
                have hsx := DiskOwn.past hso (Box.lt (LD.xo hL4))
                have hT := tiny_write (side := (ra : Int)) (at_ := (rb : Int)) (text := tx) (by omega) (LD.tiny hL4)
                have hP := LD.put hL5 hO5 hsx hT
                obtain ⟨S0, m0, S1, m1, Sl_, ml, rfl, rfl, rfl⟩ := hso.forms
                go_wp2_with fail
                refine hK.out _ _ trivial (fun hHeld5 => ?_)
                clear hK K
                try simp only [Act.put]
                refine wpAnyH_take (i := 8) (v := ?_) rfl (by kernel_rfl) (by kernel_rfl) (by kernel_rfl) (fun _ _ _ h => h) (Or.inl ⟨by rfl, ?_⟩) (by assumption) ?_
                rotate_left
                · (intro w' hSw; go_simp; try with_reducible rfl)
                try simp only [Act.put]
                refine wpAnyH_take (i := 9) (v := ?_) rfl (by kernel_rfl) (by kernel_rfl) (by kernel_rfl) (fun _ _ _ h => h) (Or.inl ⟨by rfl, ?_⟩) (by assumption) ?_
                rotate_left
                · (intro w' hSw; go_simp; try with_reducible rfl)
                try simp only [Act.put]
                refine wpAnyH_take (i := 10) (v := ?_) rfl (by kernel_rfl) (by kernel_rfl) (by kernel_rfl) (fun _ _ _ h => h) (Or.inl ⟨by rfl, ?_⟩) (by assumption) ?_
                rotate_left
                · (intro w' hSw; go_simp; try with_reducible rfl)
                try simp only [Act.put]
                refine wpAnyH_ready (rs := [11]) (by kernel_rfl) (by simp) ?_
                refine AllReadyH.cons rfl (fun K hK => ?_) (AllReadyH.nil)
                obtain ⟨p0, p1, p2⟩ := Box.three (LD.xo hL5)
                have q0 := Box.open_ (LD.xo hL5) 0
                have q1 := Box.open_ (LD.xo hL5) 1
                have q2 := Box.open_ (LD.xo hL5) 2
                go_simp
                refine hK.out _ _ trivial (fun hHeld6 => ?_)
                clear hK K
                try simp only [Act.put]
                refine wpAnyH_done (by kernel_rfl) ?_ _
                go_simp
                go_wp2
                go_roundw
                case rel => exact ⟨j - 1, kc, _, _, _, _, by omega, by go_num, by omega, Lib.hid hP⟩
                case measure => simp [intOf]; omega
              · have hway : True := trivial
                go_simp
                go_at_call 36
                refine (pick_6 g (kk + 1) _ (LD.rd hL1) (by omega)).mono ?_
                rintro e wt2 ⟨rb, hrb, rfl, hg2, hR2⟩
                have hL2 := LD.grown hL1 hg2 hR2
                go_wp2_with fail
                refine hK.out _ _ trivial (fun hHeld2 => ?_)
                clear hK K
                try simp only [Act.put]
                refine wpAnyH_ready (rs := [0, 6]) (by kernel_rfl) (by simp) ?_
                refine AllReadyH.cons rfl (fun K hK => ?_) (AllReadyH.cons rfl (fun K hK => ?_) (AllReadyH.nil))
                · have hway : True := trivial
                  obtain ⟨x0, x1, x2⟩ := Box.three (LD.xo hL2)
                  go_simp
                  refine hK.out _ _ trivial (fun hHeld3 => ?_)
                  clear hK K
                  try simp only [Act.put]
                  refine wpAnyH_ready (rs := [6]) (by kernel_rfl) (by simp) ?_
                  refine AllReadyH.cons rfl (fun K hK => ?_) (AllReadyH.nil)
                  go_simp
                  go_at_call 44
                  refine (l1Text_any g (kk + 1 + 1) _ (LD.rd hL2) (by omega)).mono ?_
                  rintro e wt4 ⟨tx, kc, htx, hkc, rfl, hg4, hR4⟩
                  have hL4 := LD.grown hL2 hg4 hR4
                  go_wp2_with fail
                  refine hK.out _ _ trivial (fun hHeld4 => ?_)
                  clear hK K
                  try simp only [Act.put]
                  refine wpAnyH_ready (rs := [7]) (by kernel_rfl) (by simp) ?_
                  refine AllReadyH.cons rfl (fun K hK => ?_) (AllReadyH.nil)
                  go_simp
                  go_at_call 43
                  refine (DiskWrite_any _ _ _ d _ _ tx _ (LD.own hL4).reads (LD.tiny hL4).short (by unfold maxLen; omega)).mono ?_
                  rintro e wt5 ⟨s0, s1, sl, rfl, hso, hb5⟩
                  have hL5 := LD.below hL4 hb5
                  have hO5 := DiskOwn.base hso (show w.heap.size + 1 ≤ _ from Nat.le_trans (LD.hx hL4) (Nat.le_of_lt (Box.lt (LD.xo hL4))))
                  have hsx := DiskOwn.past hso (Box.lt (LD.xo hL4))
                  have hT := tiny_write (side := (ra : Int)) (at_ := (rb : Int)) (text := tx) (by omega) (LD.tiny hL4)
                  have hP := LD.put hL5 hO5 hsx hT
                  obtain ⟨S0, m0, S1, m1, Sl_, ml, rfl, rfl, rfl⟩ := hso.forms
                  go_wp2_with fail
                  refine hK.out _ _ trivial (fun hHeld5 => ?_)
                  clear hK K
                  try simp only [Act.put]
                  refine wpAnyH_take (i := 8) (v := ?_) rfl (by kernel_rfl) (by kernel_rfl) (by kernel_rfl) (fun _ _ _ h => h) (Or.inl ⟨by rfl, ?_⟩) (by assumption) ?_
                  rotate_left
                  · (intro w' hSw; go_simp; try with_reducible rfl)
                  try simp only [Act.put]
                  refine wpAnyH_take (i := 9) (v := ?_) rfl (by kernel_rfl) (by kernel_rfl) (by kernel_rfl) (fun _ _ _ h => h) (Or.inl ⟨by rfl, ?_⟩) (by assumption) ?_
                  rotate_left
                  · (intro w' hSw; go_simp; try with_reducible rfl)
                  try simp only [Act.put]
                  refine wpAnyH_take (i := 10) (v := ?_) rfl (by kernel_rfl) (by kernel_rfl) (by kernel_rfl) (fun _ _ _ h => h) (Or.inl ⟨by rfl, ?_⟩) (by assumption) ?_
                  rotate_left
                  · (intro w' hSw; go_simp; try with_reducible rfl)
                  try simp only [Act.put]
                  refine wpAnyH_ready (rs := [11]) (by kernel_rfl) (by simp) ?_
                  refine AllReadyH.cons rfl (fun K hK => ?_) (AllReadyH.nil)
                  obtain ⟨p0, p1, p2⟩ := Box.three (LD.xo hL5)
                  have q0 := Box.open_ (LD.xo hL5) 0
                  have q1 := Box.open_ (LD.xo hL5) 1
                  have q2 := Box.open_ (LD.xo hL5) 2
                  go_simp
                  refine hK.out _ _ trivial (fun hHeld6 => ?_)
                  clear hK K
                  try simp only [Act.put]
                  refine wpAnyH_done (by kernel_rfl) ?_ _
                  go_simp
                  go_wp2
                  go_roundw
                  case rel => exact ⟨j - 1, kc, _, _, _, _, by omega, by go_num, by omega, Lib.hid hP⟩
                  case measure => simp [intOf]; omega
                · have hway : True := trivial
                  go_simp
                  go_at_call 44
                  refine (l1Text_any g (kk + 1 + 1) _ (LD.rd hL2) (by omega)).mono ?_
                  rintro e wt3 ⟨tx, kc, htx, hkc, rfl, hg3, hR3⟩
                  have hL3 := LD.grown hL2 hg3 hR3
                  go_wp2_with fail
                  refine hK.out _ _ trivial (fun hHeld3 => ?_)
                  clear hK K
                  try simp only [Act.put]
                  refine wpAnyH_ready (rs := [0]) (by kernel_rfl) (by simp) ?_
                  refine AllReadyH.cons rfl (fun K hK => ?_) (AllReadyH.nil)
                  obtain ⟨x0, x1, x2⟩ := Box.three (LD.xo hL3)
                  go_simp
                  refine hK.out _ _ trivial (fun hHeld4 => ?_)
                  clear hK K
                  try simp only [Act.put]
                  refine wpAnyH_ready (rs := [7]) (by kernel_rfl) (by simp) ?_
                  refine AllReadyH.cons rfl (fun K hK => ?_) (AllReadyH.nil)
                  go_simp
                  go_at_call 43
                  refine (DiskWrite_any _ _ _ d _ _ tx _ (LD.own hL3).reads (LD.tiny hL3).short (by unfold maxLen; omega)).mono ?_
                  rintro e wt5 ⟨s0, s1, sl, rfl, hso, hb5⟩
                  have hL5 := LD.below hL3 hb5
                  have hO5 := DiskOwn.base hso (show w.heap.size + 1 ≤ _ from Nat.le_trans (LD.hx hL3) (Nat.le_of_lt (Box.lt (LD.xo hL3))))
                  have hsx := DiskOwn.past hso (Box.lt (LD.xo hL3))
                  have hT := tiny_write (side := (ra : Int)) (at_ := (rb : Int)) (text := tx) (by omega) (LD.tiny hL3)
                  have hP := LD.put hL5 hO5 hsx hT
                  obtain ⟨S0, m0, S1, m1, Sl_, ml, rfl, rfl, rfl⟩ := hso.forms
                  go_wp2_with fail
                  refine hK.out _ _ trivial (fun hHeld5 => ?_)
                  clear hK K
                  try simp only [Act.put]
                  refine wpAnyH_take (i := 8) (v := ?_) rfl (by kernel_rfl) (by kernel_rfl) (by kernel_rfl) (fun _ _ _ h => h) (Or.inl ⟨by rfl, ?_⟩) (by assumption) ?_
                  rotate_left
                  · (intro w' hSw; go_simp; try with_reducible rfl)
                  try simp only [Act.put]
                  refine wpAnyH_take (i := 9) (v := ?_) rfl (by kernel_rfl) (by kernel_rfl) (by kernel_rfl) (fun _ _ _ h => h) (Or.inl ⟨by rfl, ?_⟩) (by assumption) ?_
                  rotate_left
                  · (intro w' hSw; go_simp; try with_reducible rfl)
                  try simp only [Act.put]
                  refine wpAnyH_take (i := 10) (v := ?_) rfl (by kernel_rfl) (by kernel_rfl) (by kernel_rfl) (fun _ _ _ h => h) (Or.inl ⟨by rfl, ?_⟩) (by assumption) ?_
                  rotate_left
                  · (intro w' hSw; go_simp; try with_reducible rfl)
                  try simp only [Act.put]
                  refine wpAnyH_ready (rs := [11]) (by kernel_rfl) (by simp) ?_
                  refine AllReadyH.cons rfl (fun K hK => ?_) (AllReadyH.nil)
                  obtain ⟨p0, p1, p2⟩ := Box.three (LD.xo hL5)
                  have q0 := Box.open_ (LD.xo hL5) 0
                  have q1 := Box.open_ (LD.xo hL5) 1
                  have q2 := Box.open_ (LD.xo hL5) 2
                  go_simp
                  refine hK.out _ _ trivial (fun hHeld6 => ?_)
                  clear hK K
                  try simp only [Act.put]
                  refine wpAnyH_done (by kernel_rfl) ?_ _
                  go_simp
                  go_wp2
                  go_roundw
                  case rel => exact ⟨j - 1, kc, _, _, _, _, by omega, by go_num, by omega, Lib.hid hP⟩
                  case measure => simp [intOf]; omega
          · have hj1 : ¬ (0 : Int) < (j : Int) := by omega
            go_wp2_with fail
            refine (pick_16 g kk _ L.out.rd (by omega)).mono ?_
            rintro e w16 ⟨r16, hr16, rfl, hg16, hq16⟩
            have L4 := Lib.hid (L.out.grown hg16 hq16)
            clear hg16 hq16 L
            by_cases h0 : r16 = 0
            · subst h0
              obtain ⟨x0, x1, x2⟩ := L4.out.xo.three
              have q0 := L4.out.xo.open_ 0
              have F5 := Lib.hid (L4.out.struck)
              go_upto_region 14 with fail
              generalize w16.setCell ⟨X, 0, none⟩ (.slice none 0 0) = w6 at F5 ⊢
              obtain ⟨z0, z1, z2⟩ := F5.out.xo.three
              obtain ⟨r0, r1, r2⟩ := F5.out.xr.three
              have f0 := F5.out.xr.open_ 0
              have f1 := F5.out.xr.open_ 1
              have f2 := F5.out.xr.open_ 2
              have hxw := F5.out.hx
              have Q1 := Lib.hid (F5.out.xr.set 0 (.slice none 0 0))
              have Q2 := Lib.hid (Q1.out.set 1 (.slice A1 d.s1.length c1))
              have Q3 := Lib.hid (Q2.out.set 2 (.slice Al d.late.length cl))
              have D := Lib.hid (Fin.back F5.out (by omega))
              go_wp2
              exact bodyPost_ret (v := .agg #[.slice none 0 0, .slice A1 d.s1.length c1, .slice Al d.late.length cl]) (by simp [results, Tryz.results15, go_sem, Q1.out.cell 0 rfl, Q2.out.cell 1 rfl, Q3.out.cell 2 rfl]) rfl D.out
            · have hb0 : ((r16 : Int) == 0) = false := beq_eq_false_iff_ne.2 (by omega)
              have F5 := Lib.hid L4.out.fin
              go_upto_region 14 with fail
              obtain ⟨z0, z1, z2⟩ := F5.out.xo.three
              obtain ⟨r0, r1, r2⟩ := F5.out.xr.three
              have f0 := F5.out.xr.open_ 0
              have f1 := F5.out.xr.open_ 1
              have f2 := F5.out.xr.open_ 2
              have hxw := F5.out.hx
              have Q1 := Lib.hid (F5.out.xr.set 0 (.slice A0 d.s0.length c0))
              have Q2 := Lib.hid (Q1.out.set 1 (.slice A1 d.s1.length c1))
              have Q3 := Lib.hid (Q2.out.set 2 (.slice Al d.late.length cl))
              have D := Lib.hid (Fin.back F5.out (by omega))
              go_wp2
              exact bodyPost_ret (v := .agg #[.slice A0 d.s0.length c0, .slice A1 d.s1.length c1, .slice Al d.late.length cl]) (by simp [results, Tryz.results15, go_sem, Q1.out.cell 0 rfl, Q2.out.cell 1 rfl, Q3.out.cell 2 rfl]) rfl D.out
      · have hbf : ((rf : Int) == 0) = false := beq_eq_false_iff_ne.2 (by omega)
        have LX := L3
        clear L3
        go_wp2_with fail
        refine (pick_3 g kx _ LX.out.rd (by omega)).mono ?_
        rintro e w8 ⟨r3, hr3, rfl, hg8, hq8⟩
        have L8 := Lib.hid (LX.out.grown hg8 hq8)
        clear hg8 hq8 LX
        go_wp2_with fail
        go_loopw [5] (fun i wr => ∃ (j kk : Nat) (d : DiskM) (u0 u1 ul : Value), j ≤ 2 ∧ i = .int .i64 (j : Int) ∧ kk + 40 * j ≤ k + 300 ∧ Hid (LD w wr g X kk u0 u1 ul d)) (fun i _ => (intOf i).toNat)
        case atStart => exact ⟨r3, kx + 1, _, _, _, _, by omega, rfl, by omega, L8⟩
        case round =>
          clear L8
          obtain ⟨j, kk, d, u0, u1, ul, hj, rfl, hkk, L⟩ := hrel
          obtain ⟨A0, c0, A1, c1, Al, cl, rfl, rfl, rfl⟩ := L.out.own.forms
          by_cases hlt : 0 < j
          · have hj1 : (0 : Int) < (j : Int) := by omega
            go_upto_region 11 with fail
            have hL0 := LD.below L.out (Below.drew (Below.refl _ wr))
            refine wp_region_held_drew (S := fun _ => True) (by kernel_rfl) trivial (fun hHeld => ?_)
            generalize wr.drew = wd at hL0 ⊢
            refine wpAnyH_take (i := 1) (v := ?_) rfl (by kernel_rfl) (by kernel_rfl) (by kernel_rfl) (fun _ _ _ h => h) (Or.inl ⟨by rfl, ?_⟩) (by assumption) ?_
            rotate_left
            · (intro w' hSw; go_simp; try with_reducible rfl)
            try simp only [Act.put]
            refine wpAnyH_take (i := 3) (v := ?_) rfl (by kernel_rfl) (by kernel_rfl) (by kernel_rfl) (fun _ _ _ h => h) (Or.inl ⟨by rfl, ?_⟩) (by assumption) ?_
            rotate_left
            · (intro w' hSw; go_simp; try with_reducible rfl)
            try simp only [Act.put]
            refine wpAnyH_take (i := 5) (v := ?_) rfl (by kernel_rfl) (by kernel_rfl) (by kernel_rfl) (fun _ _ _ h => h) (Or.inl ⟨by rfl, ?_⟩) (by assumption) ?_
            rotate_left
            · (intro w' hSw; go_simp; try with_reducible rfl)
            try simp only [Act.put]
            refine wpAnyH_ready (rs := [0, 2]) (by kernel_rfl) (by simp) ?_
            refine AllReadyH.cons rfl (fun K hK => ?_) (AllReadyH.cons rfl (fun K hK => ?_) (AllReadyH.nil))
            · have hway : True := trivial
              obtain ⟨x0, x1, x2⟩ := Box.three (LD.xo hL0)
              go_simp
              refine hK.out _ _ trivial (fun hHeld1 => ?_)
              clear hK K
              try simp only [Act.put]
              refine wpAnyH_ready (rs := [2]) (by kernel_rfl) (by simp) ?_
              refine AllReadyH.cons rfl (fun K hK => ?_) (AllReadyH.nil)
              go_simp
              go_at_call 36
              refine (pick_2 g (kk) _ (LD.rd hL0) (by omega)).mono ?_
              rintro e wt2 ⟨ra, hra, rfl, hg2, hR2⟩
              have hL2 := LD.grown hL0 hg2 hR2
              go_wp2_with fail
              refine hK.out _ _ trivial (fun hHeld2 => ?_)
              clear hK K
              try simp only [Act.put]
              refine wpAnyH_ready (rs := [4]) (by kernel_rfl) (by simp) ?_
              refine AllReadyH.cons rfl (fun K hK => ?_) (AllReadyH.nil)
              go_simp
              go_at_call 36
              refine (pick_6 g (kk + 1) _ (LD.rd hL2) (by omega)).mono ?_
              rintro e wt3 ⟨rb, hrb, rfl, hg3, hR3⟩
              have hL3 := LD.grown hL2 hg3 hR3
              go_wp2_with fail
              refine hK.out _ _ trivial (fun hHeld3 => ?_)
              clear hK K
              try simp only [Act.put]
              refine wpAnyH_ready (rs := [6]) (by kernel_rfl) (by simp) ?_
              refine AllReadyH.cons rfl (fun K hK => ?_) (AllReadyH.nil)
              go_simp
              go_at_call 44
              refine (l1Text_any g (kk + 1 + 1) _ (LD.rd hL3) (by omega)).mono ?_
              rintro e wt4 ⟨tx, kc, htx, hkc, rfl, hg4, hR4⟩
              have hL4 := LD.grown hL3 hg4 hR4
              go_wp2_with fail
              refine hK.out _ _ trivial (fun hHeld4 => ?_)
              clear hK K
              try simp only [Act.put]
              refine wpAnyH_ready (rs := [7]) (by kernel_rfl) (by simp) ?_
              refine AllReadyH.cons rfl (fun K hK => ?_) (AllReadyH.nil)
              go_simp
              go_at_call 43
              refine (DiskWrite_any _ _ _ d _ _ tx _ (LD.own hL4).reads (LD.tiny hL4).short (by unfold maxLen; omega)).mono ?_
              rintro e wt5 ⟨s0, s1, sl, rfl, hso, hb5⟩
              have hL5 := LD.below hL4 hb5
              have hO5 := DiskOwn.base hso (show w.heap.size + 1 ≤ _ from Nat.le_trans (LD.hx hL4) (Nat.le_of_lt (Box.lt (LD.xo hL4))))
              have hsx := DiskOwn.past hso (Box.lt (LD.xo hL4))
              have hT := tiny_write (side := (ra : Int)) (at_ := (rb : Int)) (text := tx) (by omega) (LD.tiny hL4)
              have hP := LD.put hL5 hO5 hsx hT
              obtain ⟨S0, m0, S1, m1, Sl_, ml, rfl, rfl, rfl⟩ := hso.forms
              go_wp2_with fail
              refine hK.out _ _ trivial (fun hHeld5 => ?_)
              clear hK K
              try simp only [Act.put]
              refine wpAnyH_take (i := 8) (v := ?_) rfl (by kernel_rfl) (by kernel_rfl) (by kernel_rfl) (fun _ _ _ h => h) (Or.inl ⟨by rfl, ?_⟩) (by assumption) ?_
              rotate_left
              · (intro w' hSw; go_simp; try with_reducible rfl)
              try simp only [Act.put]
              refine wpAnyH_take (i := 9) (v := ?_) rfl (by kernel_rfl) (by kernel_rfl) (by kernel_rfl) (fun _ _ _ h => h) (Or.inl ⟨by rfl, ?_⟩) (by assumption) ?_
              rotate_left
              · (intro w' hSw; go_simp; try with_reducible rfl)
              try simp only [Act.put]
              refine wpAnyH_take (i := 10) (v := ?_) rfl (by kernel_rfl) (by kernel_rfl) (by kernel_rfl) (fun _ _ _ h => h) (Or.inl ⟨by rfl, ?_⟩) (by assumption) ?_
              rotate_left
              · (intro w' hSw; go_simp; try with_reducible rfl)
              try simp only [Act.put]
              refine wpAnyH_ready (rs := [11]) (by kernel_rfl) (by simp) ?_
              refine AllReadyH.cons rfl (fun K hK => ?_) (AllReadyH.nil)
              obtain ⟨p0, p1, p2⟩ := Box.three (LD.xo hL5)
              have q0 := Box.open_ (LD.xo hL5) 0
              have q1 := Box.open_ (LD.xo hL5) 1
              have q2 := Box.open_ (LD.xo hL5) 2
              go_simp
              refine hK.out _ _ trivial (fun hHeld6 => ?_)
              clear hK K
              try simp only [Act.put]
              refine wpAnyH_done (by kernel_rfl) ?_ _
              go_simp
              go_wp2
              go_roundw
              case rel => exact ⟨j - 1, kc, _, _, _, _, by omega, by go_num, by omega, Lib.hid hP⟩
              case measure => simp [intOf]; omega
            · have hway : True := trivial
              go_simp
              go_at_call 36
              refine (pick_2 g (kk) _ (LD.rd hL0) (by omega)).mono ?_
              rintro e wt1 ⟨ra, hra, rfl, hg1, hR1⟩
              have hL1 := LD.grown hL0 hg1 hR1
              go_wp2_with fail
              refine hK.out _ _ trivial (fun hHeld1 => ?_)
              clear hK K
              try simp only [Act.put]
              refine wpAnyH_ready (rs := [0, 4]) (by kernel_rfl) (by simp) ?_
              refine AllReadyH.cons rfl (fun K hK => ?_) (AllReadyH.cons rfl (fun K hK => ?_) (AllReadyH.nil))
              · have hway : True := trivial
                obtain ⟨x0, x1, x2⟩ := Box.three (LD.xo hL1)
                go_simp
                refine hK.out _ _ trivial (fun hHeld2 => ?_)
                clear hK K
                try simp only [Act.put]
                refine wpAnyH_ready (rs := [4]) (by kernel_rfl) (by simp) ?_
                refine AllReadyH.cons rfl (fun K hK => ?_) (AllReadyH.nil)
                go_simp
                go_at_call 36
                refine (pick_6 g (kk + 1) _ (LD.rd hL1) (by omega)).mono ?_
                rintro e wt3 ⟨rb, hrb, rfl, hg3, hR3⟩
                have hL3 := LD.grown hL1 hg3 hR3
                go_wp2_with fail
                refine hK.out _ _ trivial (fun hHeld3 => ?_)
                clear hK K
                try simp only [Act.put]
                refine wpAnyH_ready (rs := [6]) (by kernel_rfl) (by simp) ?_
                refine AllReadyH.cons rfl (fun K hK => ?_) (AllReadyH.nil)
                go_simp
                go_at_call 44
                refine (l1Text_any g (kk + 1 + 1) _ (LD.rd hL3) (by omega)).mono ?_
                rintro e wt4 ⟨tx, kc, htx, hkc, rfl, hg4, hR4⟩
                have hL4 := LD.grown hL3 hg4 hR4
                go_wp2_with fail
                refine hK.out _ _ trivial (fun hHeld4 => ?_)
                clear hK K
                try simp only [Act.put]
                refine wpAnyH_ready (rs := [7]) (by kernel_rfl) (by simp) ?_
                refine AllReadyH.cons rfl (fun K hK => ?_) (AllReadyH.nil)
                go_simp
                go_at_call 43
                refine (DiskWrite_any _ _ _ d _ _ tx _ (LD.own hL4).reads (LD.tiny hL4).short (by unfold maxLen; omega)).mono ?_
                rintro e wt5 ⟨s0, s1, sl, rfl, hso, hb5⟩
                have hL5 := LD.below hL4 hb5
                have hO5 := DiskOwn.base hso (show w.heap.size + 1 ≤ _ from Nat.le_trans (LD.hx hL4) (Nat.le_of_lt (Box.lt (LD.xo hL4))))
                have hsx := DiskOwn.past hso (Box.lt (LD.xo hL4))
                have hT := tiny_write (side := (ra : Int)) (at_ := (rb : Int)) (text := tx) (by omega) (LD.tiny hL4)
                have hP := LD.put hL5 hO5 hsx hT
                obtain ⟨S0, m0, S1, m1, Sl_, ml, rfl, rfl, rfl⟩ := hso.forms
                go_wp2_with fail
                refine hK.out _ _ trivial (fun hHeld5 => ?_)
                clear hK K
                try simp only [Act.put]
                refine wpAnyH_take (i := 8) (v := ?_) rfl (by kernel_rfl) (by kernel_rfl) (by kernel_rfl) (fun _ _ _ h => h) (Or.inl ⟨by rfl, ?_⟩) (by assumption) ?_
                rotate_left
                · (intro w' hSw; go_simp; try with_reducible rfl)
                try simp only [Act.put]
                refine wpAnyH_take (i := 9) (v := ?_) rfl (by kernel_rfl) (by kernel_rfl) (by kernel_rfl) (fun _ _ _ h => h) (Or.inl ⟨by rfl, ?_⟩) (by assumption) ?_
                rotate_left
                · (intro w' hSw; go_simp; try with_reducible rfl)
                try simp only [Act.put]
                refine wpAnyH_take (i := 10) (v := ?_) rfl (by kernel_rfl) (by kernel_rfl) (by kernel_rfl) (fun _ _ _ h => h) (Or.inl ⟨by rfl, ?_⟩) (by assumption) ?_
                rotate_left
                · (intro w' hSw; go_simp; try with_reducible rfl)
                try simp only [Act.put]
                refine wpAnyH_ready (rs := [11]) (by kernel_rfl) (by simp) ?_
                refine AllReadyH.cons rfl (fun K hK => ?_) (AllReadyH.nil)
                obtain ⟨p0, p1, p2⟩ := Box.three (LD.xo hL5)
                have q0 := Box.open_ (LD.xo hL5) 0
                have q1 := Box.open_ (LD.xo hL5) 1
                have q2 := Box.open_ (LD.xo hL5) 2
                go_simp
                refine hK.out _ _ trivial (fun hHeld6 => ?_)
                clear hK K
                try simp only [Act.put]
                refine wpAnyH_done (by kernel_rfl) ?_ _
                go_simp
                go_wp2
                go_roundw
                case rel => exact ⟨j - 1, kc, _, _, _, _, by omega, by go_num, by omega, Lib.hid hP⟩
                case measure => simp [intOf]; omega
              · have hway : True := trivial
                go_simp
                go_at_call 36
                refine (pick_6 g (kk + 1) _ (LD.rd hL1) (by omega)).mono ?_
                rintro e wt2 ⟨rb, hrb, rfl, hg2, hR2⟩
                have hL2 := LD.grown hL1 hg2 hR2
                go_wp2_with fail
                refine hK.out _ _ trivial (fun hHeld2 => ?_)
                clear hK K
                try simp only [Act.put]
                refine wpAnyH_ready (rs := [0, 6]) (by kernel_rfl) (by simp) ?_
                refine AllReadyH.cons rfl (fun K hK => ?_) (AllReadyH.cons rfl (fun K hK => ?_) (AllReadyH.nil))
                · have hway : True := trivial
                  obtain ⟨x0, x1, x2⟩ := Box.three (LD.xo hL2)
                  go_simp
                  refine hK.out _ _ trivial (fun hHeld3 => ?_)
                  clear hK K
                  try simp only [Act.put]
                  refine wpAnyH_ready (rs := [6]) (by kernel_rfl) (by simp) ?_
                  refine AllReadyH.cons rfl (fun K hK => ?_) (AllReadyH.nil)
                  go_simp
                  go_at_call 44
                  refine (l1Text_any g (kk + 1 + 1) _ (LD.rd hL2) (by omega)).mono ?_
                  rintro e wt4 ⟨tx, kc, htx, hkc, rfl, hg4, hR4⟩
                  have hL4 := LD.grown hL2 hg4 hR4
                  go_wp2_with fail
                  refine hK.out _ _ trivial (fun hHeld4 => ?_)
                  clear hK K
                  try simp only [Act.put]
                  refine wpAnyH_ready (rs := [7]) (by kernel_rfl) (by simp) ?_
                  refine AllReadyH.cons rfl (fun K hK => ?_) (AllReadyH.nil)
                  go_simp
                  go_at_call 43
                  refine (DiskWrite_any _ _ _ d _ _ tx _ (LD.own hL4).reads (LD.tiny hL4).short (by unfold maxLen; omega)).mono ?_
                  rintro e wt5 ⟨s0, s1, sl, rfl, hso, hb5⟩
                  have hL5 := LD.below hL4 hb5
                  have hO5 := DiskOwn.base hso (show w.heap.size + 1 ≤ _ from Nat.le_trans (LD.hx hL4) (Nat.le_of_lt (Box.lt (LD.xo hL4))))
                  have hsx := DiskOwn.past hso (Box.lt (LD.xo hL4))
                  have hT := tiny_write (side := (ra : Int)) (at_ := (rb : Int)) (text := tx) (by omega) (LD.tiny hL4)
                  have hP := LD.put hL5 hO5 hsx hT
                  obtain ⟨S0, m0, S1, m1, Sl_, ml, rfl, rfl, rfl⟩ := hso.forms
                  go_wp2_with fail
                  refine hK.out _ _ trivial (fun hHeld5 => ?_)
                  clear hK K
                  try simp only [Act.put]
                  refine wpAnyH_take (i := 8) (v := ?_) rfl (by kernel_rfl) (by kernel_rfl) (by kernel_rfl) (fun _ _ _ h => h) (Or.inl ⟨by rfl, ?_⟩) (by assumption) ?_
                  rotate_left
                  · (intro w' hSw; go_simp; try with_reducible rfl)
                  try simp only [Act.put]
                  refine wpAnyH_take (i := 9) (v := ?_) rfl (by kernel_rfl) (by kernel_rfl) (by kernel_rfl) (fun _ _ _ h => h) (Or.inl ⟨by rfl, ?_⟩) (by assumption) ?_
                  rotate_left
                  · (intro w' hSw; go_simp; try with_reducible rfl)
                  try simp only [Act.put]
                  refine wpAnyH_take (i := 10) (v := ?_) rfl (by kernel_rfl) (by kernel_rfl) (by kernel_rfl) (fun _ _ _ h => h) (Or.inl ⟨by rfl, ?_⟩) (by assumption) ?_
                  rotate_left
                  · (intro w' hSw; go_simp; try with_reducible rfl)
                  try simp only [Act.put]
                  refine wpAnyH_ready (rs := [11]) (by kernel_rfl) (by simp) ?_
                  refine AllReadyH.cons rfl (fun K hK => ?_) (AllReadyH.nil)
                  obtain ⟨p0, p1, p2⟩ := Box.three (LD.xo hL5)
                  have q0 := Box.open_ (LD.xo hL5) 0
                  have q1 := Box.open_ (LD.xo hL5) 1
                  have q2 := Box.open_ (LD.xo hL5) 2
                  go_simp
                  refine hK.out _ _ trivial (fun hHeld6 => ?_)
                  clear hK K
                  try simp only [Act.put]
                  refine wpAnyH_done (by kernel_rfl) ?_ _
                  go_simp
                  go_wp2
                  go_roundw
                  case rel => exact ⟨j - 1, kc, _, _, _, _, by omega, by go_num, by omega, Lib.hid hP⟩
                  case measure => simp [intOf]; omega
                · have hway : True := trivial
                  go_simp
                  go_at_call 44
                  refine (l1Text_any g (kk + 1 + 1) _ (LD.rd hL2) (by omega)).mono ?_
                  rintro e wt3 ⟨tx, kc, htx, hkc, rfl, hg3, hR3⟩
                  have hL3 := LD.grown hL2 hg3 hR3
                  go_wp2_with fail
                  refine hK.out _ _ trivial (fun hHeld3 => ?_)
                  clear hK K
                  try simp only [Act.put]
                  refine wpAnyH_ready (rs := [0]) (by kernel_rfl) (by simp) ?_
                  refine AllReadyH.cons rfl (fun K hK => ?_) (AllReadyH.nil)
                  obtain ⟨x0, x1, x2⟩ := Box.three (LD.xo hL3)
                  go_simp
                  refine hK.out _ _ trivial (fun hHeld4 => ?_)
                  clear hK K
                  try simp only [Act.put]
                  refine wpAnyH_ready (rs := [7]) (by kernel_rfl) (by simp) ?_
                  refine AllReadyH.cons rfl (fun K hK => ?_) (AllReadyH.nil)
                  go_simp
                  go_at_call 43
                  refine (DiskWrite_any _ _ _ d _ _ tx _ (LD.own hL3).reads (LD.tiny hL3).short (by unfold maxLen; omega)).mono ?_
                  rintro e wt5 ⟨s0, s1, sl, rfl, hso, hb5⟩
                  have hL5 := LD.below hL3 hb5
                  have hO5 := DiskOwn.base hso (show w.heap.size + 1 ≤ _ from Nat.le_trans (LD.hx hL3) (Nat.le_of_lt (Box.lt (LD.xo hL3))))
                  have hsx := DiskOwn.past hso (Box.lt (LD.xo hL3))
                  have hT := tiny_write (side := (ra : Int)) (at_ := (rb : Int)) (text := tx) (by omega) (LD.tiny hL3)
                  have hP := LD.put hL5 hO5 hsx hT
                  obtain ⟨S0, m0, S1, m1, Sl_, ml, rfl, rfl, rfl⟩ := hso.forms
                  go_wp2_with fail
                  refine hK.out _ _ trivial (fun hHeld5 => ?_)
                  clear hK K
                  try simp only [Act.put]
                  refine wpAnyH_take (i := 8) (v := ?_) rfl (by kernel_rfl) (by kernel_rfl) (by kernel_rfl) (fun _ _ _ h => h) (Or.inl ⟨by rfl, ?_⟩) (by assumption) ?_
                  rotate_left
                  · (intro w' hSw; go_simp; try with_reducible rfl)
                  try simp only [Act.put]
                  refine wpAnyH_take (i := 9) (v := ?_) rfl (by kernel_rfl) (by kernel_rfl) (by kernel_rfl) (fun _ _ _ h => h) (Or.inl ⟨by rfl, ?_⟩) (by assumption) ?_
                  rotate_left
                  · (intro w' hSw; go_simp; try with_reducible rfl)
                  try simp only [Act.put]
                  refine wpAnyH_take (i := 10) (v := ?_) rfl (by kernel_rfl) (by kernel_rfl) (by kernel_rfl) (fun _ _ _ h => h) (Or.inl ⟨by rfl, ?_⟩) (by assumption) ?_
                  rotate_left
                  · (intro w' hSw; go_simp; try with_reducible rfl)
                  try simp only [Act.put]
                  refine wpAnyH_ready (rs := [11]) (by kernel_rfl) (by simp) ?_
                  refine AllReadyH.cons rfl (fun K hK => ?_) (AllReadyH.nil)
                  obtain ⟨p0, p1, p2⟩ := Box.three (LD.xo hL5)
                  have q0 := Box.open_ (LD.xo hL5) 0
                  have q1 := Box.open_ (LD.xo hL5) 1
                  have q2 := Box.open_ (LD.xo hL5) 2
                  go_simp
                  refine hK.out _ _ trivial (fun hHeld6 => ?_)
                  clear hK K
                  try simp only [Act.put]
                  refine wpAnyH_done (by kernel_rfl) ?_ _
                  go_simp
                  go_wp2
                  go_roundw
                  case rel => exact ⟨j - 1, kc, _, _, _, _, by omega, by go_num, by omega, Lib.hid hP⟩
                  case measure => simp [intOf]; omega
          · have hj1 : ¬ (0 : Int) < (j : Int) := by omega
            go_wp2_with fail
            refine (pick_16 g kk _ L.out.rd (by omega)).mono ?_
            rintro e w16 ⟨r16, hr16, rfl, hg16, hq16⟩
            have L4 := Lib.hid (L.out.grown hg16 hq16)
            clear hg16 hq16 L
            by_cases h0 : r16 = 0
            · subst h0
              obtain ⟨x0, x1, x2⟩ := L4.out.xo.three
              have q0 := L4.out.xo.open_ 0
              have F5 := Lib.hid (L4.out.struck)
              go_upto_region 14 with fail
              generalize w16.setCell ⟨X, 0, none⟩ (.slice none 0 0) = w6 at F5 ⊢
              obtain ⟨z0, z1, z2⟩ := F5.out.xo.three
              obtain ⟨r0, r1, r2⟩ := F5.out.xr.three
              have f0 := F5.out.xr.open_ 0
              have f1 := F5.out.xr.open_ 1
              have f2 := F5.out.xr.open_ 2
              have hxw := F5.out.hx
              have Q1 := Lib.hid (F5.out.xr.set 0 (.slice none 0 0))
              have Q2 := Lib.hid (Q1.out.set 1 (.slice A1 d.s1.length c1))
              have Q3 := Lib.hid (Q2.out.set 2 (.slice Al d.late.length cl))
              have D := Lib.hid (Fin.back F5.out (by omega))
              go_wp2
              exact bodyPost_ret (v := .agg #[.slice none 0 0, .slice A1 d.s1.length c1, .slice Al d.late.length cl]) (by simp [results, Tryz.results15, go_sem, Q1.out.cell 0 rfl, Q2.out.cell 1 rfl, Q3.out.cell 2 rfl]) rfl D.out
            · have hb0 : ((r16 : Int) == 0) = false := beq_eq_false_iff_ne.2 (by omega)
              have F5 := Lib.hid L4.out.fin
              go_upto_region 14 with fail
              obtain ⟨z0, z1, z2⟩ := F5.out.xo.three
              obtain ⟨r0, r1, r2⟩ := F5.out.xr.three
              have f0 := F5.out.xr.open_ 0
              have f1 := F5.out.xr.open_ 1
              have f2 := F5.out.xr.open_ 2
              have hxw := F5.out.hx
              have Q1 := Lib.hid (F5.out.xr.set 0 (.slice A0 d.s0.length c0))
              have Q2 := Lib.hid (Q1.out.set 1 (.slice A1 d.s1.length c1))
              have Q3 := Lib.hid (Q2.out.set 2 (.slice Al d.late.length cl))
              have D := Lib.hid (Fin.back F5.out (by omega))
              go_wp2
              exact bodyPost_ret (v := .agg #[.slice A0 d.s0.length c0, .slice A1 d.s1.length c1, .slice Al d.late.length cl]) (by simp [results, Tryz.results15, go_sem, Q1.out.cell 0 rfl, Q2.out.cell 1 rfl, Q3.out.cell 2 rfl]) rfl D.out

end Go.Proofs.YtfcfgdpelbljnaaGreatDoor
