/-
  impl's diskCopy and disk: a disk in memory of the call's own, and the disk that a draft has become.
-/
import Derived.Test.YtobjgdnmlibofaaGreatImClone
set_option maxRecDepth 100000
namespace Go.Proofs.YtobjgdnmlibofaaGreat
open Go.ChangeShapes Go.WideShapes Go.ChangeAt Go.RowKit Go.Proofs.Palim

theorem apart_of {w : World} {B e sz n : Nat} {v u : Value} {xs : List Value} (hv : Low B v) (hu : w.ownsRow B e sz u n xs) : Apart v u := fun g e e' => by
  have h1 := hv g e
  have h2 := (hu.lt g e').1
  omega

set_option maxHeartbeats 400000 in
theorem disk_any (A0 A1 Al : Option Addr) (n0 c0 n1 c1 nl cl : Nat) (w : World) :
    Calls Tryz.prog 75 #[.agg #[.slice A0 n0 c0, .slice A1 n1 c1, .slice Al nl cl]] w fun e w' => e = .returned (.agg #[.slice A0 n0 c0, .slice A1 n1 c1, .slice Al nl cl]) ∧ Below w.heap.size w w' := by
  go_enter Tryz.func75, Tryz.ntmps75
  go_wp2
  refine bodyPost_ret (v := .agg #[.slice A0 n0 c0, .slice A1 n1 c1, .slice Al nl cl]) (by simp [results, Tryz.results75, go_sem]) rfl ⟨rfl, ?_⟩
  exact ((Below.refl _ _).alloc (Nat.le_refl _) _).alloc (by simp) _

set_option maxHeartbeats 1000000 in
theorem diskCopy_any (v0 v1 vl : Value) (d : DiskM) (w : World) (h : DiskR w v0 v1 vl d) (hs : DiskShort d) :
    Calls Tryz.prog 74 #[.agg #[v0, v1, vl]] w (NewDisk w d) := by
  obtain ⟨_, A0, c0, rfl, _⟩ := h.r0
  obtain ⟨_, A1, c1, rfl, _⟩ := h.r1
  obtain ⟨_, Al, cl, rfl, _⟩ := h.rl
  have HD := Lib.hid h
  have HS := Lib.hid hs
  clear h hs
  obtain ⟨hA, hR, hsz, hB⟩ := box2 w #[.slice A0 d.s0.length c0, .slice A1 d.s1.length c1, .slice Al d.late.length cl] #[.slice none 0 0, .slice none 0 0, .slice none 0 0] 39 108
  have RD := Lib.hid (HD.out.below hB)
  have XD := Lib.hid hA
  have XR := Lib.hid hR
  have B0 := Lib.hid hB
  clear hA hR hB
  go_enter Tryz.func74, Tryz.ntmps74
  go_wp2_with fail
  refine (cloneLate_any _ d.late _ RD.out.rl RD.out.ll HS.out.nl).mono ?_
  rintro e w1 ⟨Ul, el, rfl, hol, hb⟩
  have hz1 := hb.size
  have RD1 := Lib.hid (RD.out.below hb)
  have XD1 := Lib.hid (XD.out.below hb (by omega))
  have XR1 := Lib.hid (XR.out.below hb (by omega))
  have B1 := Lib.hid (B0.out.trans (hb.mono (by omega)))
  have OL := Lib.hid (own_base hol (base' := w.heap.size + 2) (by omega))
  have LL := Lib.hid (low_of_own hol)
  clear hb RD XD XR B0 hol
  rw [hsz] at hz1
  clear hsz
  -- the draft's own box
  have hn := Below.new (w := w1) (.cells #[.slice none 0 0, .slice none 0 0, .slice Ul d.late.length el] 108)
  have RD2 := Lib.hid (RD1.out.below hn)
  have XD2 := Lib.hid (XD1.out.alloc (.cells #[.slice none 0 0, .slice none 0 0, .slice Ul d.late.length el] 108))
  have XR2 := Lib.hid (XR1.out.alloc (.cells #[.slice none 0 0, .slice none 0 0, .slice Ul d.late.length el] 108))
  have XW2 := Lib.hid (box_new w1 #[.slice none 0 0, .slice none 0 0, .slice Ul d.late.length el] 108)
  have OL2 := Lib.hid (own_kept OL.out (w' := w1.alloc (.cells #[.slice none 0 0, .slice none 0 0, .slice Ul d.late.length el] 108)) fun b e => hn.block b (OL.out.lt b e).2)
  have B2 := Lib.hid (B1.out.trans (hn.mono (by have := B1.out.size; omega)))
  clear hn RD1 XD1 XR1 B1 OL
  go_wp2
  go_loopw [9] (fun i wr => ∃ (k : Nat) (u0 u1 : Value), k ≤ 2 ∧ i = .int .i64 (k : Int) ∧ Hid (Box wr w.heap.size [.slice A0 d.s0.length c0, .slice A1 d.s1.length c1, .slice Al d.late.length cl]) ∧ Hid (Box wr (w.heap.size + 1) [.slice none 0 0, .slice none 0 0, .slice none 0 0]) ∧ Hid (Box wr w1.heap.size [u0, u1, .slice Ul d.late.length el]) ∧
      w1.heap.size + 1 ≤ wr.heap.size ∧ Hid (Below w.heap.size w wr) ∧
      Hid (wr.ownsRow (w.heap.size + 2) 81 3 (.slice Ul d.late.length el) d.late.length (lcs d.late)) ∧
      Hid (k = 0 → u0 = .slice none 0 0) ∧ Hid (k ≤ 1 → u1 = .slice none 0 0) ∧
      Hid (1 ≤ k → wr.ownsRow (w1.heap.size + 1) 9 1 u0 d.s0.length (scs d.s0)) ∧ Hid (2 ≤ k → wr.ownsRow (w1.heap.size + 1) 9 1 u1 d.s1.length (scs d.s1) ∧ Apart u0 u1)) (fun i _ => 2 - (intOf i).toNat)
  case atStart => exact ⟨0, _, _, Nat.zero_le _, rfl, XD2, XR2, XW2, by simp, B2, OL2, Lib.hid (fun _ => rfl), Lib.hid (fun _ => rfl), Lib.hid (fun h => absurd h (by omega)), Lib.hid (fun h => absurd h (by omega))⟩
  case round =>
    clear RD2 XD2 XR2 XW2 B2 OL2
    obtain ⟨k, u0, u1, hk, rfl, XD, XR, XW, hsz, B, OL, E0, E1, O0, O1⟩ := hrel
    have hk3 : k = 0 ∨ k = 1 ∨ k = 2 := by omega
    clear hk
    obtain ⟨x0, x1, x2⟩ := XD.out.three
    rcases hk3 with rfl | rfl | rfl
    · -- side 0
      obtain rfl := E0.out rfl
      obtain rfl := E1.out (by omega)
      clear E0 E1 O0 O1
      have RD := Lib.hid (HD.out.below B.out)
      go_wp2_with fail
      refine (cloneStr_any _ d.s0 _ RD.out.r0 RD.out.l0 HS.out.n0).mono ?_
      rintro e w2 ⟨V0, f0, rfl, ho, hb⟩
      have hz2 := hb.size
      have XW2 := Lib.hid (XW.out.below hb (by omega))
      have XD2 := Lib.hid (XD.out.below hb (by omega))
      have XR2 := Lib.hid (XR.out.below hb (by omega))
      have B2 := Lib.hid (B.out.trans (hb.mono (by omega)))
      have OL2 := Lib.hid (own_kept OL.out (w' := w2) fun b e => hb.block b (OL.out.lt b e).2)
      have O0 := Lib.hid (own_base ho (base' := w1.heap.size + 1) (by omega))
      clear ho hb XW XD XR B RD OL x0 x1 x2
      obtain ⟨y0, y1, y2⟩ := XW2.out.three
      have g0 := XW2.out.open_ 0
      go_wp2
      go_roundw
      case rel =>
        refine ⟨1, _, _, by omega, by go_num, Lib.hid (XD2.out.other (by simp; omega) _), Lib.hid (XR2.out.other (by simp; omega) _), Lib.hid (XW2.out.set 0 _), by simp; omega, Lib.hid (B2.out.setCell (by simp; omega) _), Lib.hid ?_, Lib.hid (fun h => absurd h (by omega)), Lib.hid (fun _ => rfl), Lib.hid (fun _ => ?_), Lib.hid (fun h => absurd h (by omega))⟩
        · exact own_kept OL2.out fun b e => Below.heap_setCell _ _ _ _ (by have := LL.out b e; simp; omega)
        · exact ownsRow_setCell_below O0.out (by simp) _
      case measure => simp [intOf]
    · -- side 1
      obtain rfl := E1.out (by omega)
      have P0 := Lib.hid (O0.out (by omega))
      clear E0 E1 O0 O1
      obtain ⟨_, V0, f0, rfl, _⟩ := sl_of_own P0.out
      have RD := Lib.hid (HD.out.below B.out)
      go_wp2_with fail
      refine (cloneStr_any _ d.s1 _ RD.out.r1 RD.out.l1 HS.out.n1).mono ?_
      rintro e w2 ⟨V1, f1, rfl, ho, hb⟩
      have hz2 := hb.size
      have XW2 := Lib.hid (XW.out.below hb (by omega))
      have XD2 := Lib.hid (XD.out.below hb (by omega))
      have XR2 := Lib.hid (XR.out.below hb (by omega))
      have B2 := Lib.hid (B.out.trans (hb.mono (by omega)))
      have OL2 := Lib.hid (own_kept OL.out (w' := w2) fun b e => hb.block b (OL.out.lt b e).2)
      have P2 := Lib.hid (own_kept P0.out (w' := w2) fun b e => hb.block b (P0.out.lt b e).2)
      have PA := Lib.hid (apart_of (low_of_own P0.out) ho)
      have O1 := Lib.hid (own_base ho (base' := w1.heap.size + 1) (by omega))
      clear ho hb XW XD XR B RD OL x0 x1 x2
      obtain ⟨y0, y1, y2⟩ := XW2.out.three
      have g0 := XW2.out.open_ 1
      go_wp2
      go_roundw
      case rel =>
        refine ⟨2, _, _, by omega, by go_num, Lib.hid (XD2.out.other (by simp; omega) _), Lib.hid (XR2.out.other (by simp; omega) _), Lib.hid (XW2.out.set 1 _), by simp; omega, Lib.hid (B2.out.setCell (by simp; omega) _), Lib.hid ?_, Lib.hid (fun h => absurd h (by omega)), Lib.hid (fun h => absurd h (by omega)), Lib.hid (fun _ => ?_), Lib.hid (fun _ => ⟨?_, ?_⟩)⟩
        · exact own_kept OL2.out fun b e => Below.heap_setCell _ _ _ _ (by have := LL.out b e; simp; omega)
        · exact ownsRow_setCell_below P2.out (by simp) _
        · exact ownsRow_setCell_below O1.out (by simp) _
        · exact PA.out
      case measure => simp [intOf]
    · have P0 := Lib.hid (O0.out (by omega))
      have P1 := Lib.hid (O1.out (by omega))
      clear E0 E1 O0 O1 XD x0 x1 x2
      obtain ⟨_, V0, f0, rfl, _⟩ := sl_of_own P0.out
      obtain ⟨_, V1, f1, rfl, _⟩ := sl_of_own P1.out.1
      obtain ⟨y0, y1, y2⟩ := XW.out.three
      obtain ⟨z0, z1, z2⟩ := XR.out.three
      have g0 := XR.out.open_ 0
      have g1 := XR.out.open_ 1
      have g2 := XR.out.open_ 2
      have PL0 := Lib.hid (show Apart (.slice V0 d.s0.length f0) (.slice Ul d.late.length el) from fun b e e' => by have := (P0.out.lt b e).1; have := LL.out b e'; omega)
      have PL1 := Lib.hid (show Apart (.slice V1 d.s1.length f1) (.slice Ul d.late.length el) from fun b e e' => by have := (P1.out.1.lt b e).1; have := LL.out b e'; omega)
      go_wp2
      have q1 := XR.out.set 0 (.slice V0 d.s0.length f0)
      have q2 := q1.set 1 (.slice V1 d.s1.length f1)
      have q3 := q2.set 2 (.slice Ul d.late.length el)
      refine bodyPost_ret (v := .agg #[.slice V0 d.s0.length f0, .slice V1 d.s1.length f1, .slice Ul d.late.length el]) (by simp [results, Tryz.results74, go_sem, q1.cell 0 rfl, q2.cell 1 rfl, q3.cell 2 rfl]) rfl ⟨_, _, _, rfl, ⟨?_, ?_, ?_, P1.out.2, PL0.out, PL1.out⟩, ?_⟩
      · exact own_base (ownsRow_setCell_below (ownsRow_setCell_below (ownsRow_setCell_below P0.out (by simp; omega) _) (by simp; omega) _) (by simp; omega) _) (by omega)
      · exact own_base (ownsRow_setCell_below (ownsRow_setCell_below (ownsRow_setCell_below P1.out.1 (by simp; omega) _) (by simp; omega) _) (by simp; omega) _) (by omega)
      · exact own_base (ownsRow_setCell_below (ownsRow_setCell_below (ownsRow_setCell_below OL.out (by simp) _) (by simp) _) (by simp) _) (by omega)
      · exact ((B.out.setCell (by simp) _).setCell (by simp) _).setCell (by simp) _
end Go.Proofs.YtobjgdnmlibofaaGreat
