/-
  The law on PoolGet, walked.
-/
import Derived.Test.YtojjenclcidnkaaGreatDoorPoolGetC
set_option maxRecDepth 100000
namespace Go.Proofs.YtojjenclcidnkaaGreatDoor
open Go.ChangeShapes Go.WideShapes Go.ChangeAt Go.RowKit Go.Proofs.Palim

set_option maxHeartbeats 2000000 in
theorem lawPoolGet (v : PV) (p : PoolM) (s : ByteArray) (i : Int) (a0 a1 : Addr) (w : World) (h : PoolR w v p) (hz : PoolFits p) (hsz : s.size ≤ maxLen) (he : Errs w a0 a1) :
    Calls Tryz.prog 3 #[v.val p, .string s, .int .i64 i] w fun e w' => e = .returned (.bool true) ∧ Below w.heap.size w w' := by
  have hnot : ∀ (x : Bool) (w : World), (Op.unary .not (.bool x)).run Tryz.prog w = .ok (.bool (!x)) w := fun _ _ => rfl
  have HRD := Lib.hid h
  have HZ := Lib.hid hz
  obtain ⟨t, c, HG⟩ : ∃ t c, Hid (getM p s i = (t, c)) := ⟨_, _, Lib.hid rfl⟩
  have HE := Lib.hid he
  unfold maxLen at hsz
  have htt : (t.toList == t.toList) = true := by simp
  have hcc : (c != c) = false := by simp
  have XA := Lib.hid ((pbox_new h 34).box)
  have B0 := Lib.hid (Below.new1 (w := w) (.cells #[v.v0, v.v1, v.vl, .int .i64 p.core.txg, v.vs, v.vd, v.vp, .bool p.core.dirty, v.vi, .int .i64 p.core.logn, .bool p.up] 34))
  clear h hz he
  go_enter Tryz.func3, Tryz.ntmps3
  go_upto_region 1 with fail
  obtain ⟨V0, HWE⟩ : ∃ W, w.alloc (.cells #[v.v0, v.v1, v.vl, .int .i64 p.core.txg, v.vs, v.vd, v.vp, .bool p.core.dirty, v.vi, .int .i64 p.core.logn, .bool p.up] 34) = W := ⟨_, rfl⟩
  rw [HWE] at XA B0 ⊢
  clear HWE
  by_cases hbig : s.size > 1048576
  · have hbi : (s.size : Int) > 1048576 := by omega
    go_wp2
    go_ret
    exact ⟨rfl, B0.out⟩
  have hbi : ¬ ((s.size : Int) > 1048576) := by omega
  go_wp2_with (refine wpList_load_box rfl _ rfl aggPoolL rfl (v.cells p) rfl XA.out ?_)
  refine (szPool_any v p 1048576 _ (HRD.out.below B0.out) HZ.out.z0 HZ.out.z1 HZ.out.zl (fun x hx => ⟨(HZ.out.c.s x hx).n, (HZ.out.c.s x hx).f⟩) (by omega) (by omega)).mono ?_
  rintro e w1 ⟨⟨rr, rfl, hr⟩, hb⟩
  have YXA := Lib.hid (XA.out.below hb XA.out.lt)
  have YB := Lib.hid (B0.out.trans (hb.mono B0.out.size))
  clear B0 hb XA
  have XA := YXA
  clear YXA
  have B0 := YB
  clear YB
  rcases hr with rfl | ⟨hr0, hr1, hr2⟩
  · go_wp2
    go_ret
    exact ⟨rfl, B0.out⟩
  have HS := Lib.hid hr2
  have g1 : ¬ rr < 0 := by omega
  clear hr1 hr2 hr0 HZ
  go_wp2_with (refine wpList_load_box rfl _ rfl aggPoolL rfl (v.cells p) rfl XA.out ?_)
  refine (toPool_any v p _ (HRD.out.below B0.out) HS.out).mono ?_
  rintro e w2 ⟨vP, rfl, hown, hb⟩
  have YXA := Lib.hid (XA.out.below hb XA.out.lt)
  have YB := Lib.hid (B0.out.trans (hb.mono B0.out.size))
  clear B0 hb XA
  have XA := YXA
  clear YXA
  have B0 := YB
  clear YB
  go_wp2_with fail
  refine (specPoolGet_is vP p s i t c _ hown.reads HS.out HG.out).mono ?_
  rintro e w3 ⟨rfl, hb⟩
  clear hown
  have YXA := Lib.hid (XA.out.below hb XA.out.lt)
  have YB := Lib.hid (B0.out.trans (hb.mono B0.out.size))
  clear B0 hb XA
  have XA := YXA
  clear YXA
  have B0 := YB
  clear YB
  go_wp2_with (refine wpList_load_box rfl _ rfl aggPoolL rfl (v.cells p) rfl XA.out ?_)
  refine (toPool_any v p _ (HRD.out.below B0.out) HS.out).mono ?_
  rintro e w5 ⟨vX, rfl, hown, hb⟩
  have OX := Lib.hid hown
  clear hown
  have YXA := Lib.hid (XA.out.below hb XA.out.lt)
  have YB := Lib.hid (B0.out.trans (hb.mono B0.out.size))
  clear B0 hb XA
  have XA := YXA
  clear YXA
  have B0 := YB
  clear YB
  go_wp2_with (refine wpList_put_mid rfl _ _ rfl rfl aggPool rfl (vX.cells p) rfl rfl OX.out.reads.one (box_new _ _ _) [] [.slice none 0 0, .slice none 0 0, .slice none 0 0, .int .i64 0, .slice none 0 0, .slice none 0 0, .slice none 0 0, .bool false, .slice none 0 0, .int .i64 0, .bool false] [] (vX.cells p) rfl rfl rfl rfl ?_)
  intro W6 P1 Z1
  have hb := putAt_new P1
  have XX := Lib.hid (show PBox W6 _ vX p from ⟨Z1, OX.out.reads.below hb⟩)
  clear P1 Z1 OX
  have YXA := Lib.hid (XA.out.below hb XA.out.lt)
  have YB := Lib.hid (B0.out.trans (hb.mono B0.out.size))
  clear B0 hb XA
  have XA := YXA
  clear YXA
  have B0 := YB
  clear YB
  go_wp2_with (refine wpList_load_box rfl _ rfl aggPool rfl (vX.cells p) rfl XX.out.box ?_)
  refine (implPoolGet_is vX p s i a0 a1 t c _ XX.out.reads HS.out (HE.out.below B0.out) HG.out).mono ?_
  rintro e w7 ⟨rfl, hb⟩
  have YXA := Lib.hid (XA.out.below hb XA.out.lt)
  have YXX := Lib.hid (XX.out.below hb)
  have YB := Lib.hid (B0.out.trans (hb.mono B0.out.size))
  clear B0 hb XA XX
  have XA := YXA
  clear YXA
  have XX := YXX
  clear YXX
  have B0 := YB
  clear YB
  go_wp2_with fail
  refine wp_region_held_drew (S := fun w' => Box w' w5.heap.size (vX.cells p) ∧ Box w' w.heap.size (v.cells p)) (by kernel_rfl) ⟨XX.out.box, XA.out⟩ (fun hHeld => ?_)
  refine wpAnyH_take (i := 0) (v := .agg (vX.cells p).toArray) rfl (by kernel_rfl) (by kernel_rfl) (by kernel_rfl) (fun _ _ _ h => h) (Or.inl ⟨by first | kernel_rfl | rfl, fun w' hSw => exec_load_cs _ rfl aggPool rfl (vX.cells p) rfl hSw.1.cells⟩) (by assumption) ?_
  try simp only [Act.put]
  refine wpAnyH_take (i := 1) (v := .agg (v.cells p).toArray) rfl (by kernel_rfl) (by kernel_rfl) (by kernel_rfl) (fun _ _ _ h => h) (Or.inl ⟨by first | kernel_rfl | rfl, fun w' hSw => exec_load_cs _ rfl aggPoolL rfl (v.cells p) rfl hSw.2.cells⟩) (by assumption) ?_
  try simp only [Act.put]
  refine wpAnyH_ready (rs := [2]) (by kernel_rfl) (by simp) ?_
  refine AllReadyH.cons rfl (fun K hK => ?_) AllReadyH.nil
  go_simp
  go_at_call 7
  refine (toPool_any v p _ (HRD.out.below B0.out.drew) HS.out).mono ?_
  rintro e w10 ⟨vT, rfl, hT, hb3⟩
  go_wp2_with fail
  refine hK.out _ _ ⟨XX.out.box.drew.below hb3 XX.out.box.lt, XA.out.drew.below hb3 XA.out.lt⟩ (fun hHeld2 => ?_)
  clear hK K
  try simp only [Act.put]
  refine wpAnyH_ready (rs := [3]) (by kernel_rfl) (by simp) ?_
  refine AllReadyH.cons rfl (fun K hK => ?_) AllReadyH.nil
  go_simp
  go_at_call 9
  refine (eqPool_same vX vT p _ (XX.out.drew.below hb3).reads hT.reads HS.out).mono ?_
  rintro e w11 ⟨rfl, hb4⟩
  go_wp2_with fail
  refine hK.out _ _ ⟨(XX.out.box.drew.below hb3 XX.out.box.lt).below hb4 (Nat.lt_of_lt_of_le XX.out.box.lt hb3.size), (XA.out.drew.below hb3 XA.out.lt).below hb4 (Nat.lt_of_lt_of_le XA.out.lt hb3.size)⟩ (fun hHeld3 => ?_)
  clear hK K
  try simp only [Act.put]
  refine wpAnyH_take (i := 4) (v := ?_) rfl (by kernel_rfl) (by kernel_rfl) (by kernel_rfl) (fun _ _ _ h => h) (Or.inl ⟨by first | kernel_rfl | rfl, ?_⟩) (by assumption) ?_
  rotate_left
  · (intro w' hSw; clear hSw; go_simp; try with_reducible rfl)
  try simp only [Act.put]
  refine wpAnyH_done (by kernel_rfl) ?_ _
  go_simp
  clear hHeld hHeld2 hHeld3
  have hb := ((below_drewB w7).trans hb3).trans (hb4.mono hb3.size)
  have B1 := Lib.hid (B0.out.trans (hb.mono B0.out.size))
  go_wp2
  go_ret
  exact ⟨rfl, B1.out⟩
end Go.Proofs.YtojjenclcidnkaaGreatDoor
