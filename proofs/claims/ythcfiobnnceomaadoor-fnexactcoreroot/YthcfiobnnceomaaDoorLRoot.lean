/-
  The law on CoreRoot, walked.
-/
import Derived.Test.YthcfiobnnceomaaDoorSRoot
import Derived.Test.YthcfiobnnceomaaDoorIRoot
set_option maxRecDepth 100000
namespace Go.Proofs.YthcfiobnnceomaaDoor
open Go.ChangeShapes Go.WideShapes Go.ChangeAt Go.RowKit Go.Proofs.Palim

set_option maxHeartbeats 6000000 in
theorem lawCoreRoot (vs vd vp vi : Value) (c : CoreM) (w : World) (h : CoreR w vs vd vp vi c) (hf : CoreFits c) (hp : HasPow w) :
    Calls Tryd.prog 3 #[cv c vs vd vp vi] w fun e w' => e = .returned (.bool true) ∧ Below w.heap.size w w' := by
  have hnot : ∀ (x : Bool) (w : World), (Op.unary .not (.bool x)).run Tryd.prog w = .ok (.bool (!x)) w := fun _ _ => rfl
  have HF := Lib.hid hf
  have HP := Lib.hid hp
  have XA := Lib.hid (kbox_new h 27)
  have B0 := Lib.hid (Below.new1 (w := w) (.cells #[.int .i64 c.txg, vs, vd, vp, .bool c.dirty, vi, .int .i64 c.logn] 27))
  obtain ⟨A0, k0, A1, k1, A2, k2, A3, k3, rfl, rfl, rfl, rfl⟩ := h.forms
  clear h hf hp
  obtain ⟨ok, HOK⟩ : ∃ ok, Hid (rootText c.sets c.parts = ok) := ⟨_, Lib.hid rfl⟩
  go_enter Tryd.func3, Tryd.ntmps3
  go_upto_region 2 with fail
  generalize w.alloc (.cells #[.int .i64 c.txg, .slice A0 c.sets.length k0, .slice A1 c.ddt.length k1, .slice A2 c.parts.length k2, .bool c.dirty, .slice A3 c.safe.length k3, .int .i64 c.logn] 27) = v0 at XA B0 ⊢
  go_wp2_with (refine wpList_load_box rfl _ rfl aggCoreL rfl (kcore c (.slice A0 c.sets.length k0) (.slice A1 c.ddt.length k1) (.slice A2 c.parts.length k2) (.slice A3 c.safe.length k3)) rfl XA.out.box ?_)
  refine (szCore_any _ _ _ _ c 1048576 _ XA.out.reads (fun x hx => ⟨(HF.out.s x hx).n, (HF.out.s x hx).f⟩) (by omega) (by omega)).mono ?_
  rintro e w1 ⟨⟨r, rfl, hr⟩, hb⟩
  have YXA := Lib.hid (XA.out.below hb)
  have B1 := Lib.hid (B0.out.trans (hb.mono B0.out.size))
  clear XA B0 hb
  have XA := YXA
  clear YXA
  have B0 := B1
  clear B1
  rcases hr with rfl | ⟨hr0, hr1, hr2⟩
  · go_wp2
    go_ret
    exact ⟨rfl, B0.out⟩
  have HS := Lib.hid hr2
  have g1 : ¬ r < 0 := by omega
  clear hr1 hr2 hr0
  go_wp2_with (refine wpList_load_box rfl _ rfl aggCoreL rfl (kcore c (.slice A0 c.sets.length k0) (.slice A1 c.ddt.length k1) (.slice A2 c.parts.length k2) (.slice A3 c.safe.length k3)) rfl XA.out.box ?_)
  refine (toCore_any _ _ _ _ c _ XA.out.reads HS.out).mono ?_
  rintro e w2 ⟨ps, pd, pp, pi, rfl, hpr, hb⟩
  have YXA := Lib.hid (XA.out.below hb)
  have B1 := Lib.hid (B0.out.trans (hb.mono B0.out.size))
  clear XA B0 hb
  have XA := YXA
  clear YXA
  have B0 := B1
  clear B1
  have HPR := Lib.hid hpr
  clear hpr
  go_wp2_with fail
  refine (specRoot_is _ _ _ _ c _ _ HPR.out HS.out HOK.out).mono ?_
  rintro e w3 ⟨rfl, hb⟩
  have YXA := Lib.hid (XA.out.below hb)
  have B1 := Lib.hid (B0.out.trans (hb.mono B0.out.size))
  clear XA B0 hb
  have XA := YXA
  clear YXA
  have B0 := B1
  clear B1
  clear HPR
  go_wp2_with (refine wpList_load_box rfl _ rfl aggCoreL rfl (kcore c (.slice A0 c.sets.length k0) (.slice A1 c.ddt.length k1) (.slice A2 c.parts.length k2) (.slice A3 c.safe.length k3)) rfl XA.out.box ?_)
  refine (toCore_any _ _ _ _ c _ XA.out.reads HS.out).mono ?_
  rintro e w4 ⟨ps, pd, pp, pi, rfl, hpr, hb⟩
  obtain ⟨M0, m0, M1, m1, M2, m2, M3, m3, rfl, rfl, rfl, rfl⟩ := hpr.forms
  have hn := Below.new1 (w := w4) (.cells #[.int .i64 c.txg, .slice M0 c.sets.length m0, .slice M1 c.ddt.length m1, .slice M2 c.parts.length m2, .bool c.dirty, .slice M3 c.safe.length m3, .int .i64 c.logn] 34)
  have XM := Lib.hid (kbox_new hpr 34)
  have YXA := Lib.hid ((XA.out.below hb).below hn)
  have B1 := Lib.hid ((B0.out.trans (hb.mono B0.out.size)).trans (hn.mono (Nat.le_trans B0.out.size hb.size)))
  clear XA B0 hb hn hpr
  have XA := YXA
  clear YXA
  have B0 := B1
  clear B1
  go_upto_region 7 with fail
  generalize w4.alloc (.cells #[.int .i64 c.txg, .slice M0 c.sets.length m0, .slice M1 c.ddt.length m1, .slice M2 c.parts.length m2, .bool c.dirty, .slice M3 c.safe.length m3, .int .i64 c.logn] 34) = v4 at XA XM B0 ⊢
  go_wp2_with (refine wpList_load_box rfl _ rfl aggCore rfl (kcore c (.slice M0 c.sets.length m0) (.slice M1 c.ddt.length m1) (.slice M2 c.parts.length m2) (.slice M3 c.safe.length m3)) rfl XM.out.box ?_)
  refine (implRoot_is _ _ _ _ c _ _ XM.out.reads HS.out (HP.out.below B0.out HP.out.lt) HOK.out).mono ?_
  rintro e w5 ⟨rfl, hb⟩
  have YXA := Lib.hid (XA.out.below hb)
  have YXM := Lib.hid (XM.out.below hb)
  have B1 := Lib.hid (B0.out.trans (hb.mono B0.out.size))
  clear XA XM B0 hb
  have XA := YXA
  clear YXA
  have XM := YXM
  clear YXM
  have B0 := B1
  clear B1
  go_wp2_with fail
  refine wp_region_held_drew (S := fun w' => Box w' w4.heap.size (kcore c (.slice M0 c.sets.length m0) (.slice M1 c.ddt.length m1) (.slice M2 c.parts.length m2) (.slice M3 c.safe.length m3)) ∧ Box w' w.heap.size (kcore c (.slice A0 c.sets.length k0) (.slice A1 c.ddt.length k1) (.slice A2 c.parts.length k2) (.slice A3 c.safe.length k3))) (by kernel_rfl) ⟨XM.out.box, XA.out.box⟩ (fun hHeld => ?_)
  refine wpAnyH_take (i := 0) (v := .agg ((kcore c (.slice M0 c.sets.length m0) (.slice M1 c.ddt.length m1) (.slice M2 c.parts.length m2) (.slice M3 c.safe.length m3))).toArray) rfl (by kernel_rfl) (by kernel_rfl) (by kernel_rfl) (fun _ _ _ h => h) (Or.inl ⟨by first | kernel_rfl | rfl, fun w' hSw => exec_load_cs _ rfl aggCore rfl (kcore c (.slice M0 c.sets.length m0) (.slice M1 c.ddt.length m1) (.slice M2 c.parts.length m2) (.slice M3 c.safe.length m3)) rfl hSw.1.cells⟩) (by assumption) ?_
  try simp only [Act.put]
  refine wpAnyH_take (i := 1) (v := .agg ((kcore c (.slice A0 c.sets.length k0) (.slice A1 c.ddt.length k1) (.slice A2 c.parts.length k2) (.slice A3 c.safe.length k3))).toArray) rfl (by kernel_rfl) (by kernel_rfl) (by kernel_rfl) (fun _ _ _ h => h) (Or.inl ⟨by first | kernel_rfl | rfl, fun w' hSw => exec_load_cs _ rfl aggCoreL rfl (kcore c (.slice A0 c.sets.length k0) (.slice A1 c.ddt.length k1) (.slice A2 c.parts.length k2) (.slice A3 c.safe.length k3)) rfl hSw.2.cells⟩) (by assumption) ?_
  try simp only [Act.put]
  refine wpAnyH_ready (rs := [2]) (by kernel_rfl) (by simp) ?_
  refine AllReadyH.cons rfl (fun K hK => ?_) AllReadyH.nil
  go_simp
  go_at_call 7
  refine (toCore_any _ _ _ _ c _ XA.out.drew.reads HS.out).mono ?_
  rintro e w9 ⟨ps, pd, pp, pi, rfl, hpr, hb3⟩
  go_wp2_with fail
  refine hK.out _ _ ⟨((XM.out.drew.below hb3)).box, ((XA.out.drew.below hb3)).box⟩ (fun hHeld2 => ?_)
  clear hK K
  try simp only [Act.put]
  refine wpAnyH_ready (rs := [3]) (by kernel_rfl) (by simp) ?_
  refine AllReadyH.cons rfl (fun K hK => ?_) AllReadyH.nil
  go_simp
  go_at_call 9
  refine (eqCore_same _ _ _ _ _ _ _ _ c _ ((XM.out.drew.below hb3)).reads hpr HS.out).mono ?_
  rintro e w10 ⟨rfl, hb4⟩
  go_wp2_with fail
  refine hK.out _ _ ⟨(((XM.out.drew.below hb3).below hb4)).box, (((XA.out.drew.below hb3).below hb4)).box⟩ (fun hHeld3 => ?_)
  clear hK K
  try simp only [Act.put]
  refine wpAnyH_take (i := 4) (v := ?_) rfl (by kernel_rfl) (by kernel_rfl) (by kernel_rfl) (fun _ _ _ h => h) (Or.inl ⟨by first | kernel_rfl | rfl, ?_⟩) (by assumption) ?_
  rotate_left
  · (intro w' hSw; clear hSw; go_simp; try with_reducible rfl)
  try simp only [Act.put]
  refine wpAnyH_done (by kernel_rfl) ?_ _
  go_simp
  clear hHeld hHeld2 hHeld3
  have hb := ((below_drewB w5).trans hb3).trans (hb4.mono hb3.size)
  clear hb3 hb4 hpr
  have YXA := Lib.hid (XA.out.below hb)
  have YXM := Lib.hid (XM.out.below hb)
  have B1 := Lib.hid (B0.out.trans (hb.mono B0.out.size))
  clear XA XM B0 hb
  have XA := YXA
  clear YXA
  have XM := YXM
  clear YXM
  have B0 := B1
  clear B1
  go_wp2
  go_ret
  exact ⟨rfl, B0.out⟩
end Go.Proofs.YthcfiobnnceomaaDoor
