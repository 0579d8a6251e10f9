/-
  The law on RoomReach, walked.
-/
import Derived.Test.YtglgdbnhnchabaaGreatDoorReach
import Derived.Test.YtglgdbnhnchabaaGreatDoorMarks
import Derived.Test.YtglgdbnhnchabaaGreatDoorCoreE
import Derived.Test.YtglgdbnhnchabaaGreatDoorCoreArg
set_option maxRecDepth 100000
namespace Go.Proofs.YtglgdbnhnchabaaGreatDoor
open Go.ChangeShapes Go.WideShapes Go.ChangeAt Go.RowKit Go.Proofs.Palim

theorem reachC_len (c : CoreM) (root : Int) : (reachC c root).length ≤ 128 := by
  unfold reachC
  split
  · rename_i hok
    have hd48 := hok.2.1.1
    have hp8 := hok.2.2.1
    have hs6 : c.sets.length ≤ 6 := by have := hok.2.2.2.2.2.2.2.1.1; rwa [namesM_length] at this
    refine Nat.le_trans (foldl_len (ptsR c root) []) ?_
    unfold ptsR
    simp only [List.length_cons, List.length_nil, List.length_append, List.length_map]
    omega
  · show 0 ≤ 128; omega
theorem specReach_is (vs vd vp vi : Value) (c : CoreM) (n : Int) (fs : List Int) (w : World) (h : CoreR w vs vd vp vi c) (hs : CoreShort c) (hf : reachC c n = fs) :
    Calls Tryz.prog 14 #[cv c vs vd vp vi, .int .i64 n] w fun e w' => ∃ v, e = .returned v ∧ w'.ownsRow w.heap.size 3 1 v fs.length (ics fs) ∧ Below w.heap.size w w' := by
  subst hf
  exact specReach_any vs vd vp vi c n w h hs
theorem implReach_is (vs vd vp vi : Value) (c : CoreM) (n : Int) (fs : List Int) (w : World) (h : CoreR w vs vd vp vi c) (hs : CoreShort c) (hT : HasBru w) (hf : reachC c n = fs) :
    Calls Tryz.prog 15 #[cv c vs vd vp vi, .int .i64 n] w fun e w' => ∃ v, e = .returned v ∧ w'.ownsRow w.heap.size 3 1 v fs.length (ics fs) ∧ Below w.heap.size w w' := by
  subst hf
  exact implReach_any vs vd vp vi c n w h hs hT

set_option maxHeartbeats 6000000 in
theorem lawRoomReach (vs vd vp vi : Value) (c : CoreM) (n : Int) (w : World) (h : CoreR w vs vd vp vi c) (hf : CoreFits c) (hT : HasBru w) :
    Calls Tryz.prog 4 #[cv c vs vd vp vi, .int .i64 n] w fun e w' => e = .returned (.bool true) ∧ Below w.heap.size w w' := by
  have hnot : ∀ (x : Bool) (w : World), (Op.unary .not (.bool x)).run Tryz.prog w = .ok (.bool (!x)) w := fun _ _ => rfl
  have HF := Lib.hid hf
  have HT := Lib.hid hT
  obtain ⟨fs, HFS⟩ : ∃ fs, Hid (reachC c n = fs) := ⟨_, Lib.hid rfl⟩
  have hfl : fs.length ≤ 128 := by rw [← HFS.out]; exact reachC_len c n
  have HRD := Lib.hid h
  have XA := Lib.hid ((kbox_new h 27).box)
  have B0 := Lib.hid (Below.new1 (w := w) (.cells #[.int .i64 c.txg, vs, vd, vp, .bool c.dirty, vi, .int .i64 c.logn] 27))
  obtain ⟨A0, k0, A1, k1, A2, k2, A3, k3, rfl, rfl, rfl, rfl⟩ := h.forms
  clear h hf hT
  go_enter Tryz.func4, Tryz.ntmps4
  go_upto_region 2 with fail
  generalize w.alloc (.cells #[.int .i64 c.txg, .slice A0 c.sets.length k0, .slice A1 c.ddt.length k1, .slice A2 c.parts.length k2, .bool c.dirty, .slice A3 c.safe.length k3, .int .i64 c.logn] 27) = v0 at XA B0 ⊢
  go_wp2_with (refine wpList_load_box rfl _ rfl aggCoreL rfl (kcore c (.slice A0 c.sets.length k0) (.slice A1 c.ddt.length k1) (.slice A2 c.parts.length k2) (.slice A3 c.safe.length k3)) rfl XA.out ?_)
  refine (szCore_any _ _ _ _ c 1048576 _ (HRD.out.below B0.out) (fun x hx => ⟨(HF.out.s x hx).n, (HF.out.s x hx).f⟩) (by omega) (by omega)).mono ?_
  rintro e w1 ⟨⟨r, rfl, hr⟩, hb⟩
  have YXA := Lib.hid (XA.out.below hb XA.out.lt)
  have B1 := Lib.hid (B0.out.trans (hb.mono B0.out.size))
  clear XA B0 hb
  have XA := YXA
  clear YXA
  have B0 := B1
  clear B1
  rcases hr with rfl | ⟨hr0, hr1, hr2⟩
  · go_wp2
    go_ret
    exact ⟨rfl, B0.out⟩
  have HS := Lib.hid hr2
  have g1 : ¬ r < 0 := by omega
  clear hr1 hr2 hr0
  go_wp2_with (refine wpList_load_box rfl _ rfl aggCoreL rfl (kcore c (.slice A0 c.sets.length k0) (.slice A1 c.ddt.length k1) (.slice A2 c.parts.length k2) (.slice A3 c.safe.length k3)) rfl XA.out ?_)
  refine (toCore_any _ _ _ _ c _ (HRD.out.below B0.out) HS.out).mono ?_
  rintro e w2 ⟨ps, pd, pp, pi, rfl, hpr, hb⟩
  have YXA := Lib.hid (XA.out.below hb XA.out.lt)
  have B1 := Lib.hid (B0.out.trans (hb.mono B0.out.size))
  clear XA B0 hb
  have XA := YXA
  clear YXA
  have B0 := B1
  clear B1
  have HPR := Lib.hid hpr
  clear hpr
  go_wp2_with fail
  refine (specReach_is _ _ _ _ c n fs _ HPR.out HS.out HFS.out).mono ?_
  rintro e w3 ⟨gv, rfl, hown, hb⟩
  have OW := Lib.hid (own_base hown B0.out.size)
  obtain ⟨_, GA, gc, rfl, -, -, -⟩ := sl_of_own hown
  have YXA := Lib.hid (XA.out.below hb XA.out.lt)
  have B1 := Lib.hid (B0.out.trans (hb.mono B0.out.size))
  clear XA B0 hb
  have XA := YXA
  clear YXA
  have B0 := B1
  clear B1
  clear HPR hown
  go_wp2_with (refine wpList_load_box rfl _ rfl aggCoreL rfl (kcore c (.slice A0 c.sets.length k0) (.slice A1 c.ddt.length k1) (.slice A2 c.parts.length k2) (.slice A3 c.safe.length k3)) rfl XA.out ?_)
  refine (toCoreO_any _ _ _ _ c _ (HRD.out.below B0.out) HS.out).mono ?_
  rintro e w4 ⟨ps, pd, pp, pi, rfl, hpr, hb⟩
  obtain ⟨M0, m0, M1, m1, M2, m2, M3, m3, rfl, rfl, rfl, rfl⟩ := hpr.reads.forms
  have hW3 : w.heap.size + 1 ≤ w3.heap.size := XA.out.lt
  have h34 := hb.size
  have HWL := Lib.hid (show ∀ b, (Value.slice GA fs.length gc).ownBlock = some b → b < w3.heap.size from fun b e => (OW.out.lt b e).2)
  have YXA := Lib.hid (XA.out.below hb XA.out.lt)
  have YOW := Lib.hid (own_kept OW.out (fun b e => hb.block b (OW.out.lt b e).2))
  have B1 := Lib.hid (B0.out.trans (hb.mono B0.out.size))
  clear XA OW B0 hb
  have XA := YXA
  clear YXA
  have OW := YOW
  clear YOW
  have B0 := B1
  clear B1
  have hb := Below.new1 (w := w4) (.cells #[.int .i64 c.txg, .slice M0 c.sets.length m0, .slice M1 c.ddt.length m1, .slice M2 c.parts.length m2, .bool c.dirty, .slice M3 c.safe.length m3, .int .i64 c.logn] 34)
  have XM := Lib.hid (show Box _ w4.heap.size (kcore c (.slice M0 c.sets.length m0) (.slice M1 c.ddt.length m1) (.slice M2 c.parts.length m2) (.slice M3 c.safe.length m3)) from (kbox_new hpr.reads 34).box)
  have OC := Lib.hid (hpr.below hb)
  clear hpr
  have YXA := Lib.hid (XA.out.below hb XA.out.lt)
  have YOW := Lib.hid (own_kept OW.out (fun b e => hb.block b (OW.out.lt b e).2))
  have B1 := Lib.hid (B0.out.trans (hb.mono B0.out.size))
  clear XA OW B0 hb
  have XA := YXA
  clear YXA
  have OW := YOW
  clear YOW
  have B0 := B1
  clear B1
  go_upto_region 7 with fail
  generalize w4.alloc (.cells #[.int .i64 c.txg, .slice M0 c.sets.length m0, .slice M1 c.ddt.length m1, .slice M2 c.parts.length m2, .bool c.dirty, .slice M3 c.safe.length m3, .int .i64 c.logn] 34) = v4 at XA XM OW OC B0 ⊢
  obtain ⟨K4, HK4⟩ : ∃ K4, w4.heap.size = K4 := ⟨_, rfl⟩
  rw [HK4] at XM h34 ⊢
  clear HK4
  go_wp2_with (refine wpList_load_box rfl _ rfl aggCore rfl (kcore c (.slice M0 c.sets.length m0) (.slice M1 c.ddt.length m1) (.slice M2 c.parts.length m2) (.slice M3 c.safe.length m3)) rfl XM.out ?_)
  refine (implReach_is _ _ _ _ c n fs _ OC.out.reads HS.out (HT.out.below B0.out HT.out.lt) HFS.out).mono ?_
  rintro e w5 ⟨hv, rfl, hown, hb⟩
  have OG := Lib.hid hown
  obtain ⟨_, HA, hc, rfl, -, -, -⟩ := sl_of_own hown
  have HCL := Lib.hid (show ∀ b, CTurns (.slice M0 c.sets.length m0) (.slice M1 c.ddt.length m1) (.slice M2 c.parts.length m2) (.slice M3 c.safe.length m3) b → w3.heap.size ≤ b ∧ b < v4.heap.size from fun b e => by
    rcases e with e | e | e | e
    · exact OC.out.s.lt b e
    · exact OC.out.d.lt b e
    · exact OC.out.p.lt b e
    · exact OC.out.i.lt b e)
  have HGL := Lib.hid (show ∀ b, (Value.slice HA fs.length hc).ownBlock = some b → v4.heap.size ≤ b from fun b e => (OG.out.lt b e).1)
  have hvK : K4 < v4.heap.size := XM.out.lt
  have hv4 : w3.heap.size ≤ v4.heap.size := by omega
  clear hown
  have YXA := Lib.hid (XA.out.below hb XA.out.lt)
  have YXM := Lib.hid (XM.out.below hb XM.out.lt)
  have YOW := Lib.hid (own_kept OW.out (fun b e => hb.block b (OW.out.lt b e).2))
  have YOC := Lib.hid (OC.out.below hb)
  have B1 := Lib.hid (B0.out.trans (hb.mono B0.out.size))
  clear XA XM OW OC B0 hb
  have XA := YXA
  clear YXA
  have XM := YXM
  clear YXM
  have OW := YOW
  clear YOW
  have OC := YOC
  clear YOC
  have B0 := B1
  clear B1
  go_wp2_with fail
  refine (eqIntS_b _ _ fs _ (sl_of_own OG.out) (sl_of_own OW.out) (by omega)).mono ?_
  rintro e w6 ⟨rfl, hb⟩
  have YXA := Lib.hid (XA.out.below hb XA.out.lt)
  have YXM := Lib.hid (XM.out.below hb XM.out.lt)
  have YOW := Lib.hid (own_kept OW.out (fun b e => hb.block b (OW.out.lt b e).2))
  have YOG := Lib.hid (own_kept OG.out (fun b e => hb.block b (OG.out.lt b e).2))
  have YOC := Lib.hid (OC.out.below hb)
  have B1 := Lib.hid (B0.out.trans (hb.mono B0.out.size))
  clear XA XM OW OG OC B0 hb
  have XA := YXA
  clear YXA
  have XM := YXM
  clear YXM
  have OW := YOW
  clear YOW
  have OG := YOG
  clear YOG
  have OC := YOC
  clear YOC
  have B0 := B1
  clear B1
  go_wp2_with fail
  refine wp_region_held_drew (S := fun w' => Box w' K4 (kcore c (.slice M0 c.sets.length m0) (.slice M1 c.ddt.length m1) (.slice M2 c.parts.length m2) (.slice M3 c.safe.length m3)) ∧ Box w' w.heap.size (kcore c (.slice A0 c.sets.length k0) (.slice A1 c.ddt.length k1) (.slice A2 c.parts.length k2) (.slice A3 c.safe.length k3))) (by kernel_rfl) ⟨XM.out, XA.out⟩ (fun hHeld => ?_)
  refine wpAnyH_take (i := 0) (v := .agg ((kcore c (.slice M0 c.sets.length m0) (.slice M1 c.ddt.length m1) (.slice M2 c.parts.length m2) (.slice M3 c.safe.length m3))).toArray) rfl (by kernel_rfl) (by kernel_rfl) (by kernel_rfl) (fun _ _ _ h => h) (Or.inl ⟨by first | kernel_rfl | rfl, fun w' hSw => exec_load_cs _ rfl aggCore rfl (kcore c (.slice M0 c.sets.length m0) (.slice M1 c.ddt.length m1) (.slice M2 c.parts.length m2) (.slice M3 c.safe.length m3)) rfl hSw.1.cells⟩) (by assumption) ?_
  try simp only [Act.put]
  refine wpAnyH_take (i := 1) (v := .agg ((kcore c (.slice A0 c.sets.length k0) (.slice A1 c.ddt.length k1) (.slice A2 c.parts.length k2) (.slice A3 c.safe.length k3))).toArray) rfl (by kernel_rfl) (by kernel_rfl) (by kernel_rfl) (fun _ _ _ h => h) (Or.inl ⟨by first | kernel_rfl | rfl, fun w' hSw => exec_load_cs _ rfl aggCoreL rfl (kcore c (.slice A0 c.sets.length k0) (.slice A1 c.ddt.length k1) (.slice A2 c.parts.length k2) (.slice A3 c.safe.length k3)) rfl hSw.2.cells⟩) (by assumption) ?_
  try simp only [Act.put]
  refine wpAnyH_ready (rs := [2]) (by kernel_rfl) (by simp) ?_
  refine AllReadyH.cons rfl (fun K hK => ?_) AllReadyH.nil
  go_simp
  go_at_call 7
  refine (toCore_any _ _ _ _ c _ (HRD.out.below B0.out.drew) HS.out).mono ?_
  rintro e w9 ⟨ps, pd, pp, pi, rfl, hpr, hb3⟩
  go_wp2_with fail
  refine hK.out _ _ ⟨XM.out.drew.below hb3 XM.out.lt, XA.out.drew.below hb3 XA.out.lt⟩ (fun hHeld2 => ?_)
  clear hK K
  try simp only [Act.put]
  refine wpAnyH_ready (rs := [3]) (by kernel_rfl) (by simp) ?_
  refine AllReadyH.cons rfl (fun K hK => ?_) AllReadyH.nil
  go_simp
  go_at_call 10
  refine (eqCore_same _ _ _ _ _ _ _ _ c _ (OC.out.drew.below hb3).reads hpr HS.out).mono ?_
  rintro e w10 ⟨rfl, hb4⟩
  go_wp2_with fail
  refine hK.out _ _ ⟨(XM.out.drew.below hb3 XM.out.lt).below hb4 (Nat.lt_of_lt_of_le XM.out.lt hb3.size), (XA.out.drew.below hb3 XA.out.lt).below hb4 (Nat.lt_of_lt_of_le XA.out.lt hb3.size)⟩ (fun hHeld3 => ?_)
  clear hK K
  try simp only [Act.put]
  refine wpAnyH_take (i := 4) (v := ?_) rfl (by kernel_rfl) (by kernel_rfl) (by kernel_rfl) (fun _ _ _ h => h) (Or.inl ⟨by first | kernel_rfl | rfl, ?_⟩) (by assumption) ?_
  rotate_left
  · (intro w' hSw; clear hSw; go_simp; try with_reducible rfl)
  try simp only [Act.put]
  refine wpAnyH_done (by kernel_rfl) ?_ _
  go_simp
  clear hHeld hHeld2 hHeld3
  have hb := ((below_drewB w6).trans hb3).trans (hb4.mono hb3.size)
  clear hb3 hb4 hpr
  have YXA := Lib.hid (XA.out.below hb XA.out.lt)
  have YXM := Lib.hid (XM.out.below hb XM.out.lt)
  have YOW := Lib.hid (own_kept OW.out (fun b e => hb.block b (OW.out.lt b e).2))
  have YOG := Lib.hid (own_kept OG.out (fun b e => hb.block b (OG.out.lt b e).2))
  have YOC := Lib.hid (OC.out.below hb)
  have B1 := Lib.hid (B0.out.trans (hb.mono B0.out.size))
  clear XA XM OW OG OC B0 hb
  have XA := YXA
  clear YXA
  have XM := YXM
  clear YXM
  have OW := YOW
  clear YOW
  have OG := YOG
  clear YOG
  have OC := YOC
  clear YOC
  have B0 := B1
  clear B1
  go_wp2_with (refine wpList_load_box rfl _ rfl aggCore rfl (kcore c (.slice M0 c.sets.length m0) (.slice M1 c.ddt.length m1) (.slice M2 c.parts.length m2) (.slice M3 c.safe.length m3)) rfl XM.out ?_)
  refine (markCore_any _ _ _ _ c 1 _ _ OC.out HS.out (by omega) (by omega)).mono ?_
  rintro e w11 ⟨rfl, ht⟩
  have YXA := Lib.hid (XA.out.kept (ht.block _ XA.out.lt (fun e => by have := (HCL.out _ e).1; omega)))
  have YOW := Lib.hid (own_kept OW.out (w' := w11) (fun b e => ht.block b (OW.out.lt b e).2 (fun e' => by have := (HCL.out b e').1; have := HWL.out b e; omega)))
  have YOG := Lib.hid (own_kept OG.out (w' := w11) (fun b e => ht.block b (OG.out.lt b e).2 (fun e' => by have := (HCL.out b e').2; have := HGL.out b e; omega)))
  have B1 := Lib.hid (B0.out.trans (below_of_turned ht (fun b e => by have := (HCL.out b e).1; omega) B0.out.size))
  clear XA OW OG B0 ht XM OC
  have XA := YXA
  have OW := YOW
  have OG := YOG
  have B0 := B1
  clear YXA YOW YOG B1
  go_wp2_with fail
  refine (eqIntS_b _ _ fs _ (sl_of_own OG.out) (sl_of_own OW.out) (by omega)).mono ?_
  rintro e w12 ⟨rfl, hb⟩
  have YXA := Lib.hid (XA.out.below hb XA.out.lt)
  have YOW := Lib.hid (own_kept OW.out (fun b e => hb.block b (OW.out.lt b e).2))
  have YOG := Lib.hid (own_kept OG.out (fun b e => hb.block b (OG.out.lt b e).2))
  have B1 := Lib.hid (B0.out.trans (hb.mono B0.out.size))
  clear XA OW OG B0 hb
  have XA := YXA
  clear YXA
  have OW := YOW
  clear YOW
  have OG := YOG
  clear YOG
  have B0 := B1
  clear B1
  go_wp2_with fail
  refine (markIntM_any _ fs.length 1 _ _ _ OG.out (by omega) (by omega) (by omega)).mono ?_
  rintro e w13 ⟨rfl, hog, ht⟩
  have YXA := Lib.hid (XA.out.kept (ht.block _ XA.out.lt (fun e => by have := HGL.out _ e; omega)))
  have YOW := Lib.hid (own_kept OW.out (w' := w13) (fun b e => ht.block b (OW.out.lt b e).2 (fun e' => by have := HWL.out b e; have := HGL.out b e'; omega)))
  have YOG := Lib.hid hog
  have B1 := Lib.hid (B0.out.trans (below_of_turned ht (fun b e => by have := HGL.out b e; omega) B0.out.size))
  clear XA OW OG B0 ht hog
  have XA := YXA
  have OW := YOW
  have OG := YOG
  have B0 := B1
  clear YXA YOW YOG B1
  go_wp2_with fail
  refine (heldIntS_any _ fs.length 1 _ (sl_of_own OG.out) (fun b e => (OG.out.lt b e).2) (by omega) (by omega) (by omega)).mono ?_
  rintro e w14 ⟨rfl, hb⟩
  have YXA := Lib.hid (XA.out.below hb XA.out.lt)
  have YOW := Lib.hid (own_kept OW.out (fun b e => hb.block b (OW.out.lt b e).2))
  have YOG := Lib.hid (own_kept OG.out (fun b e => hb.block b (OG.out.lt b e).2))
  have B1 := Lib.hid (B0.out.trans (hb.mono B0.out.size))
  clear XA OW OG B0 hb
  have XA := YXA
  clear YXA
  have OW := YOW
  clear YOW
  have OG := YOG
  clear YOG
  have B0 := B1
  clear B1
  go_wp2_with (refine wpList_load_box rfl _ rfl aggCoreL rfl (kcore c (.slice A0 c.sets.length k0) (.slice A1 c.ddt.length k1) (.slice A2 c.parts.length k2) (.slice A3 c.safe.length k3)) rfl XA.out ?_)
  refine (toCore_any _ _ _ _ c _ (HRD.out.below B0.out) HS.out).mono ?_
  rintro e w15 ⟨ps, pd, pp, pi, rfl, hpr, hb⟩
  have YXA := Lib.hid (XA.out.below hb XA.out.lt)
  have YOW := Lib.hid (own_kept OW.out (fun b e => hb.block b (OW.out.lt b e).2))
  have YOG := Lib.hid (own_kept OG.out (fun b e => hb.block b (OG.out.lt b e).2))
  have B1 := Lib.hid (B0.out.trans (hb.mono B0.out.size))
  clear XA OW OG B0 hb
  have XA := YXA
  clear YXA
  have OW := YOW
  clear YOW
  have OG := YOG
  clear YOG
  have B0 := B1
  clear B1
  have HPR := Lib.hid hpr
  clear hpr
  go_wp2_with fail
  refine (implReach_is _ _ _ _ c n fs _ HPR.out HS.out (HT.out.below B0.out HT.out.lt) HFS.out).mono ?_
  rintro e w16 ⟨jv, rfl, hown, hb⟩
  have OJ := Lib.hid hown
  obtain ⟨_, JA, jc, rfl, -, -, -⟩ := sl_of_own hown
  clear hown HPR
  have YXA := Lib.hid (XA.out.below hb XA.out.lt)
  have YOW := Lib.hid (own_kept OW.out (fun b e => hb.block b (OW.out.lt b e).2))
  have YOG := Lib.hid (own_kept OG.out (fun b e => hb.block b (OG.out.lt b e).2))
  have B1 := Lib.hid (B0.out.trans (hb.mono B0.out.size))
  clear XA OW OG B0 hb
  have XA := YXA
  clear YXA
  have OW := YOW
  clear YOW
  have OG := YOG
  clear YOG
  have B0 := B1
  clear B1
  go_wp2_with fail
  refine (eqIntS_b _ _ fs _ (sl_of_own OJ.out) (sl_of_own OW.out) (by omega)).mono ?_
  rintro e w17 ⟨rfl, hb⟩
  have YXA := Lib.hid (XA.out.below hb XA.out.lt)
  have YOW := Lib.hid (own_kept OW.out (fun b e => hb.block b (OW.out.lt b e).2))
  have YOG := Lib.hid (own_kept OG.out (fun b e => hb.block b (OG.out.lt b e).2))
  have B1 := Lib.hid (B0.out.trans (hb.mono B0.out.size))
  clear XA OW OG B0 hb
  have XA := YXA
  clear YXA
  have OW := YOW
  clear YOW
  have OG := YOG
  clear YOG
  have B0 := B1
  clear B1
  go_wp2_with fail
  refine (heldIntS_any _ fs.length 1 _ (sl_of_own OG.out) (fun b e => (OG.out.lt b e).2) (by omega) (by omega) (by omega)).mono ?_
  rintro e w18 ⟨rfl, hb⟩
  have YXA := Lib.hid (XA.out.below hb XA.out.lt)
  have YOW := Lib.hid (own_kept OW.out (fun b e => hb.block b (OW.out.lt b e).2))
  have YOG := Lib.hid (own_kept OG.out (fun b e => hb.block b (OG.out.lt b e).2))
  have B1 := Lib.hid (B0.out.trans (hb.mono B0.out.size))
  clear XA OW OG B0 hb
  have XA := YXA
  clear YXA
  have OW := YOW
  clear YOW
  have OG := YOG
  clear YOG
  have B0 := B1
  clear B1
  go_wp2
  go_ret
  exact ⟨rfl, B0.out⟩
end Go.Proofs.YtglgdbnhnchabaaGreatDoor
