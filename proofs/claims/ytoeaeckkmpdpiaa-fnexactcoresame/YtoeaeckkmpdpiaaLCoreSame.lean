/-
  The law on CoreSame, walked.
-/
import Derived.Test.YtoeaeckkmpdpiaaCoreSmS
import Derived.Test.YtoeaeckkmpdpiaaKBox
set_option maxRecDepth 100000
namespace Go.Proofs.Ytoeaeckkmpdpiaa
open Go.ChangeShapes Go.WideShapes Go.ChangeAt Go.RowKit Go.Proofs.Palim

set_option maxHeartbeats 6000000 in
theorem lawCoreSame (vs vd vp vi us ud up ui : Value) (c d : CoreM) (w : World) (h : CoreR w vs vd vp vi c) (k : CoreR w us ud up ui d) (hf : CoreFits c) (kf : CoreFits d) :
    Calls Try.prog 6 #[cv c vs vd vp vi, cv d us ud up ui] w fun e w' => e = .returned (.bool true) ∧ Below w.heap.size w w' := by
  have hnot : ∀ (x : Bool) (w : World), (Op.unary .not (.bool x)).run Try.prog w = .ok (.bool (!x)) w := fun _ _ => rfl
  have HF := Lib.hid hf
  have KF := Lib.hid kf
  obtain ⟨hA, hC, hsz, hB⟩ := box2 w #[.int .i64 c.txg, vs, vd, vp, .bool c.dirty, vi, .int .i64 c.logn] #[.int .i64 d.txg, us, ud, up, .bool d.dirty, ui, .int .i64 d.logn] 52 52
  have XA := Lib.hid (show KBox _ w.heap.size vs vd vp vi c from ⟨hA, h.below hB⟩)
  have XB := Lib.hid (show KBox _ (w.heap.size + 1) us ud up ui d from ⟨hC, k.below hB⟩)
  have B0 := Lib.hid hB
  obtain ⟨A0, k0, A1, k1, A2, k2, A3, k3, rfl, rfl, rfl, rfl⟩ := h.forms
  obtain ⟨D0, l0, D1, l1, D2, l2, D3, l3, rfl, rfl, rfl, rfl⟩ := k.forms
  clear hA hC hB h k hf kf hsz
  obtain ⟨ok, HOK⟩ : ∃ ok, Hid (decide (c = d) = ok) := ⟨_, Lib.hid rfl⟩
  go_enter Try.func6, Try.ntmps6
  go_upto_region 2 with fail
  generalize (w.alloc (.cells #[.int .i64 c.txg, .slice A0 c.sets.length k0, .slice A1 c.ddt.length k1, .slice A2 c.parts.length k2, .bool c.dirty, .slice A3 c.safe.length k3, .int .i64 c.logn] 52)).alloc (.cells #[.int .i64 d.txg, .slice D0 d.sets.length l0, .slice D1 d.ddt.length l1, .slice D2 d.parts.length l2, .bool d.dirty, .slice D3 d.safe.length l3, .int .i64 d.logn] 52) = W at XA XB B0 ⊢
  go_wp2_with (first | (refine wpList_load_box rfl _ rfl aggCoreL rfl (kcore c (.slice A0 c.sets.length k0) (.slice A1 c.ddt.length k1) (.slice A2 c.parts.length k2) (.slice A3 c.safe.length k3)) rfl XA.out.box ?_))
  refine (szCore_any _ _ _ _ c 1048576 _ XA.out.reads (fun x hx => ⟨(HF.out.s x hx).n, (HF.out.s x hx).f⟩) (by omega) (by omega)).mono ?_
  rintro e w1 ⟨⟨r, rfl, hr⟩, hb⟩
  have YXA := Lib.hid (XA.out.below hb)
  have YXB := Lib.hid (XB.out.below hb)
  have B1 := Lib.hid (B0.out.trans (hb.mono B0.out.size))
  clear XA XB B0 hb
  have XA := YXA
  clear YXA
  have XB := YXB
  clear YXB
  have B0 := B1
  clear B1
  rcases hr with rfl | ⟨hr0, hr1, hr2⟩
  · go_wp2
    go_ret
    exact ⟨rfl, B0.out⟩
  have HS := Lib.hid hr2
  have g1 : ¬ r < 0 := by omega
  have i1 : r ≤ 1048576 := by omega
  clear hr1 hr2
  go_wp2_with (first | (refine wpList_load_box rfl _ rfl aggCoreL rfl (kcore d (.slice D0 d.sets.length l0) (.slice D1 d.ddt.length l1) (.slice D2 d.parts.length l2) (.slice D3 d.safe.length l3)) rfl XB.out.box ?_))
  refine (szCore_any _ _ _ _ d r _ XB.out.reads (fun x hx => ⟨(KF.out.s x hx).n, (KF.out.s x hx).f⟩) (by omega) (by omega)).mono ?_
  rintro e w2 ⟨⟨q, rfl, hr⟩, hb⟩
  have YXA := Lib.hid (XA.out.below hb)
  have YXB := Lib.hid (XB.out.below hb)
  have B1 := Lib.hid (B0.out.trans (hb.mono B0.out.size))
  clear XA XB B0 hb
  have XA := YXA
  clear YXA
  have XB := YXB
  clear YXB
  have B0 := B1
  clear B1
  rcases hr with rfl | ⟨hr0, hr1, hr2⟩
  · go_wp2
    go_ret
    exact ⟨rfl, B0.out⟩
  have KS := Lib.hid hr2
  have g2 : ¬ q < 0 := by omega
  have i2 : q ≤ 1048576 := by omega
  clear hr1 hr2
  clear hr0
  go_wp2_with fail
  refine wp_region_held_drew (S := fun w' => Box w' w.heap.size (kcore c (.slice A0 c.sets.length k0) (.slice A1 c.ddt.length k1) (.slice A2 c.parts.length k2) (.slice A3 c.safe.length k3)) ∧ Box w' (w.heap.size + 1) (kcore d (.slice D0 d.sets.length l0) (.slice D1 d.ddt.length l1) (.slice D2 d.parts.length l2) (.slice D3 d.safe.length l3))) (by kernel_rfl) ⟨XA.out.box, XB.out.box⟩ (fun hHeld => ?_)
  refine wpAnyH_take (i := 0) (v := .agg ((kcore c (.slice A0 c.sets.length k0) (.slice A1 c.ddt.length k1) (.slice A2 c.parts.length k2) (.slice A3 c.safe.length k3))).toArray) rfl (by kernel_rfl) (by kernel_rfl) (by kernel_rfl) (fun _ _ _ h => h) (Or.inl ⟨by first | kernel_rfl | rfl, fun w' hSw => exec_load_cs _ rfl aggCoreL rfl (kcore c (.slice A0 c.sets.length k0) (.slice A1 c.ddt.length k1) (.slice A2 c.parts.length k2) (.slice A3 c.safe.length k3)) rfl hSw.1.cells⟩) (by assumption) ?_
  try simp only [Act.put]
  refine wpAnyH_take (i := 2) (v := .agg ((kcore d (.slice D0 d.sets.length l0) (.slice D1 d.ddt.length l1) (.slice D2 d.parts.length l2) (.slice D3 d.safe.length l3))).toArray) rfl (by kernel_rfl) (by kernel_rfl) (by kernel_rfl) (fun _ _ _ h => h) (Or.inl ⟨by first | kernel_rfl | rfl, fun w' hSw => exec_load_cs _ rfl aggCoreL rfl (kcore d (.slice D0 d.sets.length l0) (.slice D1 d.ddt.length l1) (.slice D2 d.parts.length l2) (.slice D3 d.safe.length l3)) rfl hSw.2.cells⟩) (by assumption) ?_
  try simp only [Act.put]
  refine wpAnyH_ready (rs := [1]) (by kernel_rfl) (by simp) ?_
  refine AllReadyH.cons rfl (fun K hK => ?_) AllReadyH.nil
  go_simp
  go_at_call 27
  refine (toCore_any _ _ _ _ c _ XA.out.drew.reads HS.out).mono ?_
  rintro e w3 ⟨ps, pd, pp, pi, rfl, hpr, hb3⟩
  go_wp2_with fail
  refine hK.out _ _ ⟨((XA.out.drew.below hb3)).box, ((XB.out.drew.below hb3)).box⟩ (fun hHeld2 => ?_)
  clear hK K
  try simp only [Act.put]
  refine wpAnyH_ready (rs := [3]) (by kernel_rfl) (by simp) ?_
  refine AllReadyH.cons rfl (fun K hK => ?_) AllReadyH.nil
  go_simp
  go_at_call 27
  refine (toCore_any _ _ _ _ d _ ((XB.out.drew.below hb3)).reads KS.out).mono ?_
  rintro e w4 ⟨qs, qd, qp, qi, rfl, hqr, hb4⟩
  go_wp2_with fail
  refine hK.out _ _ ⟨(((XA.out.drew.below hb3).below hb4)).box, (((XB.out.drew.below hb3).below hb4)).box⟩ (fun hHeld3 => ?_)
  clear hK K
  try simp only [Act.put]
  refine wpAnyH_ready (rs := [4]) (by kernel_rfl) (by simp) ?_
  refine AllReadyH.cons rfl (fun K hK => ?_) AllReadyH.nil
  go_simp
  go_at_call 26
  refine (specSame_is _ _ _ _ _ _ _ _ c d _ (hpr.below hb4) hqr HS.out KS.out).mono ?_
  rintro e w5 ⟨rfl, hb5⟩
  go_wp2_with fail
  refine hK.out _ _ ⟨((((XA.out.drew.below hb3).below hb4).below hb5)).box, ((((XB.out.drew.below hb3).below hb4).below hb5)).box⟩ (fun hHeld4 => ?_)
  clear hK K
  try simp only [Act.put]
  refine wpAnyH_take (i := 5) (v := ?_) rfl (by kernel_rfl) (by kernel_rfl) (by kernel_rfl) (fun _ _ _ h => h) (Or.inl ⟨by first | kernel_rfl | rfl, ?_⟩) (by assumption) ?_
  rotate_left
  · (intro w' hSw; clear hSw; go_simp; try with_reducible rfl)
  try simp only [Act.put]
  refine wpAnyH_done (by kernel_rfl) ?_ _
  rw [HOK.out]
  go_simp
  clear hHeld hHeld2 hHeld3 hHeld4
  have hb := (((below_drewB w2).trans hb3).trans (hb4.mono hb3.size)).trans (hb5.mono (Nat.le_trans hb3.size hb4.size))
  clear hb3 hb4 hb5 hpr hqr
  have YXA := Lib.hid (XA.out.below hb)
  have YXB := Lib.hid (XB.out.below hb)
  have B1 := Lib.hid (B0.out.trans (hb.mono B0.out.size))
  clear XA XB B0 hb
  have XA := YXA
  clear YXA
  have XB := YXB
  clear YXB
  have B0 := B1
  clear B1
  go_wp2_with (first | (refine wpList_load_box rfl _ rfl aggCoreL rfl (kcore c (.slice A0 c.sets.length k0) (.slice A1 c.ddt.length k1) (.slice A2 c.parts.length k2) (.slice A3 c.safe.length k3)) rfl XA.out.box ?_))
  refine (toCore_any _ _ _ _ c _ XA.out.reads HS.out).mono ?_
  rintro e w6 ⟨ps, pd, pp, pi, rfl, hpr, hb⟩
  obtain ⟨M0, m0, M1, m1, M2, m2, M3, m3, rfl, rfl, rfl, rfl⟩ := hpr.forms
  have hn := Below.new1 (w := w6) (.cells #[.int .i64 c.txg, .slice M0 c.sets.length m0, .slice M1 c.ddt.length m1, .slice M2 c.parts.length m2, .bool c.dirty, .slice M3 c.safe.length m3, .int .i64 c.logn] 58)
  have XM := Lib.hid (kbox_new hpr 58)
  have YXA := Lib.hid ((XA.out.below hb).below hn)
  have YXB := Lib.hid ((XB.out.below hb).below hn)
  have B1 := Lib.hid ((B0.out.trans (hb.mono B0.out.size)).trans (hn.mono (Nat.le_trans B0.out.size hb.size)))
  clear XA XB B0 hb hn hpr
  have XA := YXA
  clear YXA
  have XB := YXB
  clear YXB
  have B0 := B1
  clear B1
  go_upto_region 10 with fail
  generalize w6.alloc (.cells #[.int .i64 c.txg, .slice M0 c.sets.length m0, .slice M1 c.ddt.length m1, .slice M2 c.parts.length m2, .bool c.dirty, .slice M3 c.safe.length m3, .int .i64 c.logn] 58) = v6 at XA XB XM B0 ⊢
  go_wp2_with (first | (refine wpList_load_box rfl _ rfl aggCoreL rfl (kcore d (.slice D0 d.sets.length l0) (.slice D1 d.ddt.length l1) (.slice D2 d.parts.length l2) (.slice D3 d.safe.length l3)) rfl XB.out.box ?_))
  refine (toCore_any _ _ _ _ d _ XB.out.reads KS.out).mono ?_
  rintro e w7 ⟨ps, pd, pp, pi, rfl, hpr, hb⟩
  obtain ⟨N0, n0, N1, n1, N2, n2, N3, n3, rfl, rfl, rfl, rfl⟩ := hpr.forms
  have hn := Below.new1 (w := w7) (.cells #[.int .i64 d.txg, .slice N0 d.sets.length n0, .slice N1 d.ddt.length n1, .slice N2 d.parts.length n2, .bool d.dirty, .slice N3 d.safe.length n3, .int .i64 d.logn] 58)
  have XN := Lib.hid (kbox_new hpr 58)
  have YXA := Lib.hid ((XA.out.below hb).below hn)
  have YXB := Lib.hid ((XB.out.below hb).below hn)
  have YXM := Lib.hid ((XM.out.below hb).below hn)
  have B1 := Lib.hid ((B0.out.trans (hb.mono B0.out.size)).trans (hn.mono (Nat.le_trans B0.out.size hb.size)))
  clear XA XB XM B0 hb hn hpr
  have XA := YXA
  clear YXA
  have XB := YXB
  clear YXB
  have XM := YXM
  clear YXM
  have B0 := B1
  clear B1
  go_upto_region 11 with fail
  generalize w7.alloc (.cells #[.int .i64 d.txg, .slice N0 d.sets.length n0, .slice N1 d.ddt.length n1, .slice N2 d.parts.length n2, .bool d.dirty, .slice N3 d.safe.length n3, .int .i64 d.logn] 58) = v7 at XA XB XM XN B0 ⊢
  go_wp2_with (first | (refine wpList_load_box rfl _ rfl aggCore rfl (kcore c (.slice M0 c.sets.length m0) (.slice M1 c.ddt.length m1) (.slice M2 c.parts.length m2) (.slice M3 c.safe.length m3)) rfl XM.out.box ?_) | (refine wpList_load_box rfl _ rfl aggCore rfl (kcore d (.slice N0 d.sets.length n0) (.slice N1 d.ddt.length n1) (.slice N2 d.parts.length n2) (.slice N3 d.safe.length n3)) rfl XN.out.box ?_))
  refine (implSame_is _ _ _ _ _ _ _ _ c d _ XM.out.reads XN.out.reads HS.out KS.out).mono ?_
  rintro e w8 ⟨rfl, hb⟩
  rw [HOK.out]
  have YXA := Lib.hid (XA.out.below hb)
  have YXB := Lib.hid (XB.out.below hb)
  have YXM := Lib.hid (XM.out.below hb)
  have YXN := Lib.hid (XN.out.below hb)
  have B1 := Lib.hid (B0.out.trans (hb.mono B0.out.size))
  clear XA XB XM XN B0 hb
  have XA := YXA
  clear YXA
  have XB := YXB
  clear YXB
  have XM := YXM
  clear YXM
  have XN := YXN
  clear YXN
  have B0 := B1
  clear B1
  go_wp2_with fail
  refine wp_region_held_drew (S := fun w' => Box w' w6.heap.size (kcore c (.slice M0 c.sets.length m0) (.slice M1 c.ddt.length m1) (.slice M2 c.parts.length m2) (.slice M3 c.safe.length m3)) ∧ Box w' w.heap.size (kcore c (.slice A0 c.sets.length k0) (.slice A1 c.ddt.length k1) (.slice A2 c.parts.length k2) (.slice A3 c.safe.length k3))) (by kernel_rfl) ⟨XM.out.box, XA.out.box⟩ (fun hHeld => ?_)
  refine wpAnyH_take (i := 0) (v := .agg ((kcore c (.slice M0 c.sets.length m0) (.slice M1 c.ddt.length m1) (.slice M2 c.parts.length m2) (.slice M3 c.safe.length m3))).toArray) rfl (by kernel_rfl) (by kernel_rfl) (by kernel_rfl) (fun _ _ _ h => h) (Or.inl ⟨by first | kernel_rfl | rfl, fun w' hSw => exec_load_cs _ rfl aggCore rfl (kcore c (.slice M0 c.sets.length m0) (.slice M1 c.ddt.length m1) (.slice M2 c.parts.length m2) (.slice M3 c.safe.length m3)) rfl hSw.1.cells⟩) (by assumption) ?_
  try simp only [Act.put]
  refine wpAnyH_take (i := 1) (v := .agg ((kcore c (.slice A0 c.sets.length k0) (.slice A1 c.ddt.length k1) (.slice A2 c.parts.length k2) (.slice A3 c.safe.length k3))).toArray) rfl (by kernel_rfl) (by kernel_rfl) (by kernel_rfl) (fun _ _ _ h => h) (Or.inl ⟨by first | kernel_rfl | rfl, fun w' hSw => exec_load_cs _ rfl aggCoreL rfl (kcore c (.slice A0 c.sets.length k0) (.slice A1 c.ddt.length k1) (.slice A2 c.parts.length k2) (.slice A3 c.safe.length k3)) rfl hSw.2.cells⟩) (by assumption) ?_
  try simp only [Act.put]
  refine wpAnyH_ready (rs := [2]) (by kernel_rfl) (by simp) ?_
  refine AllReadyH.cons rfl (fun K hK => ?_) AllReadyH.nil
  go_simp
  go_at_call 27
  refine (toCore_any _ _ _ _ c _ XA.out.drew.reads HS.out).mono ?_
  rintro e w9 ⟨ps, pd, pp, pi, rfl, hpr, hb3⟩
  go_wp2_with fail
  refine hK.out _ _ ⟨((XM.out.drew.below hb3)).box, ((XA.out.drew.below hb3)).box⟩ (fun hHeld2 => ?_)
  clear hK K
  try simp only [Act.put]
  refine wpAnyH_ready (rs := [3]) (by kernel_rfl) (by simp) ?_
  refine AllReadyH.cons rfl (fun K hK => ?_) AllReadyH.nil
  go_simp
  go_at_call 29
  refine (eqCore_same _ _ _ _ _ _ _ _ c _ ((XM.out.drew.below hb3)).reads hpr HS.out).mono ?_
  rintro e w10 ⟨rfl, hb4⟩
  go_wp2_with fail
  refine hK.out _ _ ⟨(((XM.out.drew.below hb3).below hb4)).box, (((XA.out.drew.below hb3).below hb4)).box⟩ (fun hHeld3 => ?_)
  clear hK K
  try simp only [Act.put]
  refine wpAnyH_take (i := 4) (v := ?_) rfl (by kernel_rfl) (by kernel_rfl) (by kernel_rfl) (fun _ _ _ h => h) (Or.inl ⟨by first | kernel_rfl | rfl, ?_⟩) (by assumption) ?_
  rotate_left
  · (intro w' hSw; clear hSw; go_simp; try with_reducible rfl)
  try simp only [Act.put]
  refine wpAnyH_done (by kernel_rfl) ?_ _
  go_simp
  clear hHeld hHeld2 hHeld3
  have hb := ((below_drewB w8).trans hb3).trans (hb4.mono hb3.size)
  clear hb3 hb4 hpr
  have YXA := Lib.hid (XA.out.below hb)
  have YXB := Lib.hid (XB.out.below hb)
  have YXM := Lib.hid (XM.out.below hb)
  have YXN := Lib.hid (XN.out.below hb)
  have B1 := Lib.hid (B0.out.trans (hb.mono B0.out.size))
  clear XA XB XM XN B0 hb
  have XA := YXA
  clear YXA
  have XB := YXB
  clear YXB
  have XM := YXM
  clear YXM
  have XN := YXN
  clear YXN
  have B0 := B1
  clear B1
  go_wp2_with fail
  refine wp_region_held_drew (S := fun w' => Box w' w7.heap.size (kcore d (.slice N0 d.sets.length n0) (.slice N1 d.ddt.length n1) (.slice N2 d.parts.length n2) (.slice N3 d.safe.length n3)) ∧ Box w' (w.heap.size + 1) (kcore d (.slice D0 d.sets.length l0) (.slice D1 d.ddt.length l1) (.slice D2 d.parts.length l2) (.slice D3 d.safe.length l3))) (by kernel_rfl) ⟨XN.out.box, XB.out.box⟩ (fun hHeld => ?_)
  refine wpAnyH_take (i := 0) (v := .agg ((kcore d (.slice N0 d.sets.length n0) (.slice N1 d.ddt.length n1) (.slice N2 d.parts.length n2) (.slice N3 d.safe.length n3))).toArray) rfl (by kernel_rfl) (by kernel_rfl) (by kernel_rfl) (fun _ _ _ h => h) (Or.inl ⟨by first | kernel_rfl | rfl, fun w' hSw => exec_load_cs _ rfl aggCore rfl (kcore d (.slice N0 d.sets.length n0) (.slice N1 d.ddt.length n1) (.slice N2 d.parts.length n2) (.slice N3 d.safe.length n3)) rfl hSw.1.cells⟩) (by assumption) ?_
  try simp only [Act.put]
  refine wpAnyH_take (i := 1) (v := .agg ((kcore d (.slice D0 d.sets.length l0) (.slice D1 d.ddt.length l1) (.slice D2 d.parts.length l2) (.slice D3 d.safe.length l3))).toArray) rfl (by kernel_rfl) (by kernel_rfl) (by kernel_rfl) (fun _ _ _ h => h) (Or.inl ⟨by first | kernel_rfl | rfl, fun w' hSw => exec_load_cs _ rfl aggCoreL rfl (kcore d (.slice D0 d.sets.length l0) (.slice D1 d.ddt.length l1) (.slice D2 d.parts.length l2) (.slice D3 d.safe.length l3)) rfl hSw.2.cells⟩) (by assumption) ?_
  try simp only [Act.put]
  refine wpAnyH_ready (rs := [2]) (by kernel_rfl) (by simp) ?_
  refine AllReadyH.cons rfl (fun K hK => ?_) AllReadyH.nil
  go_simp
  go_at_call 27
  refine (toCore_any _ _ _ _ d _ XB.out.drew.reads KS.out).mono ?_
  rintro e w11 ⟨ps, pd, pp, pi, rfl, hpr, hb3⟩
  go_wp2_with fail
  refine hK.out _ _ ⟨((XN.out.drew.below hb3)).box, ((XB.out.drew.below hb3)).box⟩ (fun hHeld2 => ?_)
  clear hK K
  try simp only [Act.put]
  refine wpAnyH_ready (rs := [3]) (by kernel_rfl) (by simp) ?_
  refine AllReadyH.cons rfl (fun K hK => ?_) AllReadyH.nil
  go_simp
  go_at_call 29
  refine (eqCore_same _ _ _ _ _ _ _ _ d _ ((XN.out.drew.below hb3)).reads hpr KS.out).mono ?_
  rintro e w12 ⟨rfl, hb4⟩
  go_wp2_with fail
  refine hK.out _ _ ⟨(((XN.out.drew.below hb3).below hb4)).box, (((XB.out.drew.below hb3).below hb4)).box⟩ (fun hHeld3 => ?_)
  clear hK K
  try simp only [Act.put]
  refine wpAnyH_take (i := 4) (v := ?_) rfl (by kernel_rfl) (by kernel_rfl) (by kernel_rfl) (fun _ _ _ h => h) (Or.inl ⟨by first | kernel_rfl | rfl, ?_⟩) (by assumption) ?_
  rotate_left
  · (intro w' hSw; clear hSw; go_simp; try with_reducible rfl)
  try simp only [Act.put]
  refine wpAnyH_done (by kernel_rfl) ?_ _
  go_simp
  clear hHeld hHeld2 hHeld3
  have hb := ((below_drewB w10).trans hb3).trans (hb4.mono hb3.size)
  clear hb3 hb4 hpr
  have YXA := Lib.hid (XA.out.below hb)
  have YXB := Lib.hid (XB.out.below hb)
  have YXM := Lib.hid (XM.out.below hb)
  have YXN := Lib.hid (XN.out.below hb)
  have B1 := Lib.hid (B0.out.trans (hb.mono B0.out.size))
  clear XA XB XM XN B0 hb
  have XA := YXA
  clear YXA
  have XB := YXB
  clear YXB
  have XM := YXM
  clear YXM
  have XN := YXN
  clear YXN
  have B0 := B1
  clear B1
  go_wp2
  go_ret
  exact ⟨rfl, B0.out⟩
end Go.Proofs.Ytoeaeckkmpdpiaa
