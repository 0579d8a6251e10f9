/-
  The law on PoolFall, walked: what is asked of spec and impl is hSp and hI.
-/
import Derived.Test.YtobjgdnmlibofaaGreatStore
set_option maxRecDepth 100000
namespace Go.Proofs.YtobjgdnmlibofaaGreat
open Go.ChangeShapes Go.WideShapes Go.ChangeAt Go.RowKit Go.Proofs.Palim

set_option maxHeartbeats 8000000 in
theorem lawPoolFall (v : PV) (p r : PoolM) (vf : Value) (fs : List Int) (w : World) (h : PoolR w v p) (hf : Sl w 1 vf fs.length (ics fs)) (hfl : Low w.heap.size vf) (hz : PoolFits p) (hrs : PoolShort p → PoolShort r)
    (hSp : ∀ (v : PV) (vf : Value) (w : World), PoolR w v p → PoolShort p → Sl w 1 vf fs.length (ics fs) → Low w.heap.size vf → fs.length ≤ 1048576 → Calls Tryz.prog 16 #[v.val p, vf] w (NewPool w r))
    (hI : ∀ (v : PV) (vf : Value) (w : World), PoolR w v p → PoolShort p → Sl w 1 vf fs.length (ics fs) → Low w.heap.size vf → fs.length ≤ 1048576 → Calls Tryz.prog 18 #[v.val p, vf] w (NewPool w r)) :
    Calls Tryz.prog 5 #[v.val p, vf] w fun e w' => e = .returned (.bool true) ∧ Below w.heap.size w w' := by
  have hnot : ∀ (x : Bool) (w : World), (Op.unary .not (.bool x)).run Tryz.prog w = .ok (.bool (!x)) w := fun _ _ => rfl
  have HRD := Lib.hid h
  have HZ := Lib.hid hz
  have HRS := Lib.hid hrs
  have HSP := Lib.hid hSp
  have HI := Lib.hid hI
  have HAL := Lib.hid h.lt
  have HFR := Lib.hid hf
  have HFL := Lib.hid hfl
  obtain ⟨_, FA, fc, rfl, hfn0, hfc0, _⟩ := hf
  have HFM := Lib.hid (Nat.le_trans hfn0 hfc0)
  clear hfl hfn0 hfc0
  have XA := Lib.hid ((pbox_new h 34).box)
  have B0 := Lib.hid (Below.new1 (w := w) (.cells #[v.v0, v.v1, v.vl, .int .i64 p.core.txg, v.vs, v.vd, v.vp, .bool p.core.dirty, v.vi, .int .i64 p.core.logn, .bool p.up] 34))
  clear h hz hrs hSp hI
  go_enter Tryz.func5, Tryz.ntmps5
  go_upto_region 1 with fail
  obtain ⟨V0, HWE⟩ : ∃ W, w.alloc (.cells #[v.v0, v.v1, v.vl, .int .i64 p.core.txg, v.vs, v.vd, v.vp, .bool p.core.dirty, v.vi, .int .i64 p.core.logn, .bool p.up] 34) = W := ⟨_, rfl⟩
  rw [HWE] at XA B0 ⊢
  clear HWE
  by_cases hfn : fs.length ≤ 1048576
  case neg =>
    have hq : (fs.length : Int) > 1048576 := by omega
    have hq2 := HFM.out
    unfold maxLen at hq2
    go_wp2
    go_ret
    exact ⟨rfl, B0.out⟩
  have hq : ¬ (fs.length : Int) > 1048576 := by omega
  have HFN := Lib.hid hfn
  clear hfn
  go_wp2_with (refine wpList_load_box rfl _ rfl aggPoolL rfl (v.cells p) rfl XA.out ?_)
  refine (szPool_any v p 1048576 _ (HRD.out.below B0.out) HZ.out.z0 HZ.out.z1 HZ.out.zl (fun x hx => ⟨(HZ.out.c.s x hx).n, (HZ.out.c.s x hx).f⟩) (by omega) (by omega)).mono ?_
  rintro e w1 ⟨⟨rr, rfl, hr⟩, hb⟩
  have YXA := Lib.hid (XA.out.below hb XA.out.lt)
  have YB := Lib.hid (B0.out.trans (hb.mono B0.out.size))
  clear B0 hb XA
  have XA := YXA
  clear YXA
  have B0 := YB
  clear YB
  rcases hr with rfl | ⟨hr0, hr1, hr2⟩
  · go_wp2
    go_ret
    exact ⟨rfl, B0.out⟩
  have HS := Lib.hid hr2
  have RS := Lib.hid (HRS.out hr2)
  have g1 : ¬ rr < 0 := by omega
  clear hr1 hr2 hr0 HZ HRS
  go_wp2_with (refine wpList_load_box rfl _ rfl aggPoolL rfl (v.cells p) rfl XA.out ?_)
  refine (toPool_any v p _ (HRD.out.below B0.out) HS.out).mono ?_
  rintro e w2 ⟨vP, rfl, hown, hb⟩
  have OP := Lib.hid hown
  clear hown
  have YXA := Lib.hid (XA.out.below hb XA.out.lt)
  have YB := Lib.hid (B0.out.trans (hb.mono B0.out.size))
  clear B0 hb XA
  have XA := YXA
  clear YXA
  have B0 := YB
  clear YB
  go_wp2_with fail
  refine (toIntS_b _ fs _ (HFR.out.below B0.out HFL.out) HFN.out).mono ?_
  rintro e w2f ⟨fP, rfl, hown, hb⟩
  have OFP := Lib.hid hown
  obtain ⟨_, fPA, fPc, rfl, _, _, _⟩ := sl_of_own hown
  clear hown
  have YXA := Lib.hid (XA.out.below hb XA.out.lt)
  have YOP := Lib.hid (OP.out.below hb)
  have YB := Lib.hid (B0.out.trans (hb.mono B0.out.size))
  clear B0 hb XA OP
  have XA := YXA
  clear YXA
  have OP := YOP
  clear YOP
  have B0 := YB
  clear YB
  go_wp2_with fail
  refine (HSP.out _ _ _ OP.out.reads HS.out (sl_of_own OFP.out) (low_of_own OFP.out) HFN.out).mono ?_
  rintro e w3 ⟨vW, rfl, hown, hb⟩
  have OW := Lib.hid hown
  clear hown
  clear OP OFP
  have YXA := Lib.hid (XA.out.below hb XA.out.lt)
  have YB := Lib.hid (B0.out.trans (hb.mono B0.out.size))
  clear B0 hb XA
  have XA := YXA
  clear YXA
  have B0 := YB
  clear YB
  have HWL := Lib.hid OW.out.reads.lt
  go_wp2_with (refine wpList_put_mid rfl _ _ rfl rfl aggPool rfl (vW.cells r) rfl rfl OW.out.reads.one (box_new _ _ _) [] [.slice none 0 0, .slice none 0 0, .slice none 0 0, .int .i64 0, .slice none 0 0, .slice none 0 0, .slice none 0 0, .bool false, .slice none 0 0, .int .i64 0, .bool false] [] (vW.cells r) rfl rfl rfl rfl ?_)
  intro W4 P1 Z1
  have hb := putAt_new P1
  have XW := Lib.hid (show PBox W4 _ vW r from ⟨Z1, OW.out.reads.below hb⟩)
  clear P1 Z1
  have hW4 : w3.heap.size < W4.heap.size := XW.out.box.lt
  have YXA := Lib.hid (XA.out.below hb XA.out.lt)
  have YOW := Lib.hid (OW.out.below hb)
  have YB := Lib.hid (B0.out.trans (hb.mono B0.out.size))
  clear B0 hb XA OW
  have XA := YXA
  clear YXA
  have OW := YOW
  clear YOW
  have B0 := YB
  clear YB
  clear OW
  go_wp2_with (refine wpList_load_box rfl _ rfl aggPoolL rfl (v.cells p) rfl XA.out ?_)
  refine (toPool_any v p _ (HRD.out.below B0.out) HS.out).mono ?_
  rintro e w5 ⟨vX, rfl, hown, hb⟩
  have OX := Lib.hid hown
  clear hown
  have h45 := hb.size
  have HN4 := Lib.hid (show w.heap.size < W4.heap.size from XA.out.lt)
  have HXB := Lib.hid (fun b (e : PTurns vX b) => OX.out.turns e)
  have YXA := Lib.hid (XA.out.below hb XA.out.lt)
  have YXW := Lib.hid (XW.out.below hb)
  have YB := Lib.hid (B0.out.trans (hb.mono B0.out.size))
  clear B0 hb XA XW
  have XA := YXA
  clear YXA
  have XW := YXW
  clear YXW
  have B0 := YB
  clear YB
  have HXK := Lib.hid (fun b (e : PTurns vX b) => OX.out.reads.lt b e)
  go_wp2_with (refine wpList_put_mid rfl _ _ rfl rfl aggPool rfl (vX.cells p) rfl rfl OX.out.reads.one (box_new _ _ _) [] [.slice none 0 0, .slice none 0 0, .slice none 0 0, .int .i64 0, .slice none 0 0, .slice none 0 0, .slice none 0 0, .bool false, .slice none 0 0, .int .i64 0, .bool false] [] (vX.cells p) rfl rfl rfl rfl ?_)
  intro W6 P1 Z1
  have hb := putAt_new P1
  have XX := Lib.hid Z1
  have h56 : w5.heap.size < W6.heap.size := XX.out.lt
  clear P1 Z1
  have YXA := Lib.hid (XA.out.below hb XA.out.lt)
  have YXW := Lib.hid (XW.out.below hb)
  have YOX := Lib.hid (OX.out.below hb)
  have YB := Lib.hid (B0.out.trans (hb.mono B0.out.size))
  clear B0 hb XA XW OX
  have XA := YXA
  clear YXA
  have XW := YXW
  clear YXW
  have OX := YOX
  clear YOX
  have B0 := YB
  clear YB
  go_wp2_with fail
  refine (toIntS_b _ fs _ (HFR.out.below B0.out HFL.out) HFN.out).mono ?_
  rintro e w6f ⟨fX, rfl, hown, hb⟩
  have OFX := Lib.hid hown
  obtain ⟨_, fXA, fXc, rfl, _, _, _⟩ := sl_of_own hown
  clear hown
  have h6f := hb.size
  have HFXB := Lib.hid (fun b (e : (Value.slice fXA fs.length fXc).ownBlock = some b) => OFX.out.lt b e)
  have YXA := Lib.hid (XA.out.below hb XA.out.lt)
  have YXW := Lib.hid (XW.out.below hb)
  have YOX := Lib.hid (OX.out.below hb)
  have YXX := Lib.hid (XX.out.below hb XX.out.lt)
  have YB := Lib.hid (B0.out.trans (hb.mono B0.out.size))
  clear B0 hb XA XW OX XX
  have XA := YXA
  clear YXA
  have XW := YXW
  clear YXW
  have OX := YOX
  clear YOX
  have XX := YXX
  clear YXX
  have B0 := YB
  clear YB
  go_wp2_with (refine wpList_load_box rfl _ rfl aggPool rfl (vX.cells p) rfl XX.out ?_)
  refine (HI.out _ _ _ OX.out.reads HS.out (sl_of_own OFX.out) (low_of_own OFX.out) HFN.out).mono ?_
  rintro e w7 ⟨vG, rfl, hown, hb⟩
  have OG := Lib.hid hown
  clear hown
  have h67 := hb.size
  have HGB := Lib.hid (fun b (e : PTurns vG b) => OG.out.turns e)
  have OFXn := Lib.hid (own_kept OFX.out (fun b e => hb.block b (OFX.out.lt b e).2))
  clear OFX
  have OFX := OFXn
  clear OFXn
  have YXA := Lib.hid (XA.out.below hb XA.out.lt)
  have YXW := Lib.hid (XW.out.below hb)
  have YOX := Lib.hid (OX.out.below hb)
  have YXX := Lib.hid (XX.out.below hb XX.out.lt)
  have YB := Lib.hid (B0.out.trans (hb.mono B0.out.size))
  clear B0 hb XA XW OX XX
  have XA := YXA
  clear YXA
  have XW := YXW
  clear YXW
  have OX := YOX
  clear YOX
  have XX := YXX
  clear YXX
  have B0 := YB
  clear YB
  go_wp2_with (refine wpList_put_mid rfl _ _ rfl rfl aggPool rfl (vG.cells r) rfl rfl OG.out.reads.one (box_new _ _ _) [] [.slice none 0 0, .slice none 0 0, .slice none 0 0, .int .i64 0, .slice none 0 0, .slice none 0 0, .slice none 0 0, .bool false, .slice none 0 0, .int .i64 0, .bool false] [] (vG.cells r) rfl rfl rfl rfl ?_)
  intro W8 P1 Z1
  have hb := putAt_new P1
  have XG := Lib.hid Z1
  have h78 : w7.heap.size < W8.heap.size := XG.out.lt
  clear P1 Z1
  have OFXn := Lib.hid (own_kept OFX.out (fun b e => hb.block b (OFX.out.lt b e).2))
  clear OFX
  have OFX := OFXn
  clear OFXn
  have YXA := Lib.hid (XA.out.below hb XA.out.lt)
  have YXW := Lib.hid (XW.out.below hb)
  have YOX := Lib.hid (OX.out.below hb)
  have YXX := Lib.hid (XX.out.below hb XX.out.lt)
  have YOG := Lib.hid (OG.out.below hb)
  have YB := Lib.hid (B0.out.trans (hb.mono B0.out.size))
  clear B0 hb XA XW OX XX OG
  have XA := YXA
  clear YXA
  have XW := YXW
  clear YXW
  have OX := YOX
  clear YOX
  have XX := YXX
  clear YXX
  have OG := YOG
  clear YOG
  have B0 := YB
  clear YB
  go_wp2_with (first | (refine wpList_load_box rfl _ rfl aggPool rfl (vG.cells r) rfl XG.out ?_) | (refine wpList_load_box rfl _ rfl aggPool rfl (vW.cells r) rfl XW.out.box ?_))
  refine (eqPool_same vG vW r _ OG.out.reads XW.out.reads RS.out).mono ?_
  rintro e w9 ⟨rfl, hb⟩
  have OFXn := Lib.hid (own_kept OFX.out (fun b e => hb.block b (OFX.out.lt b e).2))
  clear OFX
  have OFX := OFXn
  clear OFXn
  have YXA := Lib.hid (XA.out.below hb XA.out.lt)
  have YXW := Lib.hid (XW.out.below hb)
  have YOX := Lib.hid (OX.out.below hb)
  have YXX := Lib.hid (XX.out.below hb XX.out.lt)
  have YOG := Lib.hid (OG.out.below hb)
  have YXG := Lib.hid (XG.out.below hb XG.out.lt)
  have YB := Lib.hid (B0.out.trans (hb.mono B0.out.size))
  clear B0 hb XA XW OX XX OG XG
  have XA := YXA
  clear YXA
  have XW := YXW
  clear YXW
  have OX := YOX
  clear YOX
  have XX := YXX
  clear YXX
  have OG := YOG
  clear YOG
  have XG := YXG
  clear YXG
  have B0 := YB
  clear YB
  go_wp2_with fail
  refine wp_region_held_drew (S := fun w' => Box w' w5.heap.size (vX.cells p) ∧ Box w' w.heap.size (v.cells p)) (by kernel_rfl) ⟨XX.out, XA.out⟩ (fun hHeld => ?_)
  refine wpAnyH_take (i := 0) (v := .agg (vX.cells p).toArray) rfl (by kernel_rfl) (by kernel_rfl) (by kernel_rfl) (fun _ _ _ h => h) (Or.inl ⟨by first | kernel_rfl | rfl, fun w' hSw => exec_load_cs _ rfl aggPool rfl (vX.cells p) rfl hSw.1.cells⟩) (by assumption) ?_
  try simp only [Act.put]
  refine wpAnyH_take (i := 1) (v := .agg (v.cells p).toArray) rfl (by kernel_rfl) (by kernel_rfl) (by kernel_rfl) (fun _ _ _ h => h) (Or.inl ⟨by first | kernel_rfl | rfl, fun w' hSw => exec_load_cs _ rfl aggPoolL rfl (v.cells p) rfl hSw.2.cells⟩) (by assumption) ?_
  try simp only [Act.put]
  refine wpAnyH_ready (rs := [2]) (by kernel_rfl) (by simp) ?_
  refine AllReadyH.cons rfl (fun K hK => ?_) AllReadyH.nil
  go_simp
  go_at_call 9
  refine (toPool_any v p _ (HRD.out.below B0.out.drew) HS.out).mono ?_
  rintro e w10 ⟨vT, rfl, hT, hb3⟩
  go_wp2_with fail
  refine hK.out _ _ ⟨XX.out.drew.below hb3 XX.out.lt, XA.out.drew.below hb3 XA.out.lt⟩ (fun hHeld2 => ?_)
  clear hK K
  try simp only [Act.put]
  refine wpAnyH_ready (rs := [3]) (by kernel_rfl) (by simp) ?_
  refine AllReadyH.cons rfl (fun K hK => ?_) AllReadyH.nil
  go_simp
  go_at_call 11
  refine (eqPool_same vX vT p _ (OX.out.drew.below hb3).reads hT.reads HS.out).mono ?_
  rintro e w11 ⟨rfl, hb4⟩
  go_wp2_with fail
  refine hK.out _ _ ⟨(XX.out.drew.below hb3 XX.out.lt).below hb4 (Nat.lt_of_lt_of_le XX.out.lt hb3.size), (XA.out.drew.below hb3 XA.out.lt).below hb4 (Nat.lt_of_lt_of_le XA.out.lt hb3.size)⟩ (fun hHeld3 => ?_)
  clear hK K
  try simp only [Act.put]
  refine wpAnyH_take (i := 4) (v := ?_) rfl (by kernel_rfl) (by kernel_rfl) (by kernel_rfl) (fun _ _ _ h => h) (Or.inl ⟨by first | kernel_rfl | rfl, ?_⟩) (by assumption) ?_
  rotate_left
  · (intro w' hSw; clear hSw; go_simp; try with_reducible rfl)
  try simp only [Act.put]
  refine wpAnyH_done (by kernel_rfl) ?_ _
  go_simp
  clear hHeld hHeld2 hHeld3
  have hb := ((below_drewB w9).trans hb3).trans (hb4.mono hb3.size)
  clear hb3 hb4 hT
  have OFXn := Lib.hid (own_kept OFX.out (fun b e => hb.block b (OFX.out.lt b e).2))
  clear OFX
  have OFX := OFXn
  clear OFXn
  have YXA := Lib.hid (XA.out.below hb XA.out.lt)
  have YXW := Lib.hid (XW.out.below hb)
  have YOX := Lib.hid (OX.out.below hb)
  have YXX := Lib.hid (XX.out.below hb XX.out.lt)
  have YOG := Lib.hid (OG.out.below hb)
  have YXG := Lib.hid (XG.out.below hb XG.out.lt)
  have YB := Lib.hid (B0.out.trans (hb.mono B0.out.size))
  clear B0 hb XA XW OX XX OG XG
  have XA := YXA
  clear YXA
  have XW := YXW
  clear YXW
  have OX := YOX
  clear YOX
  have XX := YXX
  clear YXX
  have OG := YOG
  clear YOG
  have XG := YXG
  clear YXG
  have B0 := YB
  clear YB
  go_wp2_with fail
  refine (toIntS_b _ fs _ (HFR.out.below B0.out HFL.out) HFN.out).mono ?_
  rintro e w12 ⟨fT, rfl, hown, hb⟩
  have OFT := Lib.hid hown
  obtain ⟨_, fTA, fTc, rfl, _, _, _⟩ := sl_of_own hown
  clear hown
  have OFXn := Lib.hid (own_kept OFX.out (fun b e => hb.block b (OFX.out.lt b e).2))
  clear OFX
  have OFX := OFXn
  clear OFXn
  have YXA := Lib.hid (XA.out.below hb XA.out.lt)
  have YXW := Lib.hid (XW.out.below hb)
  have YOX := Lib.hid (OX.out.below hb)
  have YXX := Lib.hid (XX.out.below hb XX.out.lt)
  have YOG := Lib.hid (OG.out.below hb)
  have YXG := Lib.hid (XG.out.below hb XG.out.lt)
  have YB := Lib.hid (B0.out.trans (hb.mono B0.out.size))
  clear B0 hb XA XW OX XX OG XG
  have XA := YXA
  clear YXA
  have XW := YXW
  clear YXW
  have OX := YOX
  clear YOX
  have XX := YXX
  clear YXX
  have OG := YOG
  clear YOG
  have XG := YXG
  clear YXG
  have B0 := YB
  clear YB
  go_wp2_with fail
  refine (eqIntS_b _ _ fs _ (sl_of_own OFX.out) (sl_of_own OFT.out) HFN.out).mono ?_
  rintro e w13 ⟨rfl, hb⟩
  clear OFT
  have OFXn := Lib.hid (own_kept OFX.out (fun b e => hb.block b (OFX.out.lt b e).2))
  clear OFX
  have OFX := OFXn
  clear OFXn
  have YXA := Lib.hid (XA.out.below hb XA.out.lt)
  have YXW := Lib.hid (XW.out.below hb)
  have YOX := Lib.hid (OX.out.below hb)
  have YXX := Lib.hid (XX.out.below hb XX.out.lt)
  have YOG := Lib.hid (OG.out.below hb)
  have YXG := Lib.hid (XG.out.below hb XG.out.lt)
  have YB := Lib.hid (B0.out.trans (hb.mono B0.out.size))
  clear B0 hb XA XW OX XX OG XG
  have XA := YXA
  clear YXA
  have XW := YXW
  clear YXW
  have OX := YOX
  clear YOX
  have XX := YXX
  clear YXX
  have OG := YOG
  clear YOG
  have XG := YXG
  clear YXG
  have B0 := YB
  clear YB
  go_wp2_with (refine wpList_load_box rfl _ rfl aggPool rfl (vX.cells p) rfl XX.out ?_)
  refine (markPool_any vX p 1 _ _ OX.out HS.out (by omega) (by omega)).mono ?_
  rintro e w14 ⟨rfl, -, ht⟩
  have hms := ht.size
  have YXA := Lib.hid (XA.out.turned ht (fun e => by have := (HXB.out _ e).1; have := HN4.out; omega))
  have YXW := Lib.hid (XW.out.turned ht (fun e => by have := (HXB.out _ e).1; omega) (fun b e e' => by have := HWL.out b e; have := (HXB.out b e').1; omega))
  have YXG := Lib.hid (XG.out.turned ht (fun e => by have := (HXB.out _ e).2; omega))
  have YOG := Lib.hid (OG.out.keptT (w' := w14) (fun b e => ht.block b (OG.out.turns e).2 (fun e' => by have := (HGB.out b e).1; have := (HXB.out b e').2; omega)))
  have YB := Lib.hid (B0.out.trans (below_of_turned ht (fun b e => by have := (HXB.out b e).1; have := HN4.out; omega) B0.out.size))
  have OFXn := Lib.hid (own_kept OFX.out (w' := w14) (fun b e => ht.block b (OFX.out.lt b e).2 (fun e' => by have := (HFXB.out b e).1; have := (HXB.out b e').2; omega)))
  clear OFX
  have OFX := OFXn
  clear OFXn
  clear XA XW XG OG B0 ht XX OX hms
  have XA := YXA
  have XW := YXW
  have XG := YXG
  have OG := YOG
  have B0 := YB
  clear YXA YXW YXG YOG YB
  obtain ⟨M, HM⟩ : ∃ M, Hid (pend 1 p = M) := ⟨_, Lib.hid rfl⟩
  have hM1 : M ≤ 100000000 := by rw [← HM.out]; exact pend_small HS.out (by omega)
  have hM2 : 1 ≤ M := by rw [← HM.out]; unfold pend cend dend; omega
  rw [HM.out]
  have hM0 : ¬ (M : Int) < 0 := by omega
  go_wp2_with fail
  refine (markIntS_any _ fs.length M _ _ _ OFX.out HFN.out hM2 hM1).mono ?_
  rintro e w15 ⟨rfl, -, ht⟩
  have YXA := Lib.hid (XA.out.turned ht (fun e => by have := (HFXB.out _ e).1; have := HN4.out; omega))
  have YXW := Lib.hid (XW.out.turned ht (fun e => by have := (HFXB.out _ e).1; omega) (fun b e e' => by have := HWL.out b e; have := (HFXB.out b e').1; omega))
  have YXG := Lib.hid (XG.out.turned ht (fun e => by have := (HFXB.out _ e).2; omega))
  have YOG := Lib.hid (OG.out.keptT (w' := w15) (fun b e => ht.block b (OG.out.turns e).2 (fun e' => by have := (HGB.out b e).1; have := (HFXB.out b e').2; omega)))
  have YB := Lib.hid (B0.out.trans (below_of_turned ht (fun b e => by have := (HFXB.out b e).1; have := HN4.out; omega) B0.out.size))
  clear XA XW XG OG B0 ht OFX
  have XA := YXA
  have XW := YXW
  have XG := YXG
  have OG := YOG
  have B0 := YB
  clear YXA YXW YXG YOG YB
  have hM3 : ¬ ((M + fs.length : Nat) : Int) < 0 := by omega
  go_wp2_with (first | (refine wpList_load_boxG (by rfl) _ rfl aggPool rfl (vG.cells r) rfl XG.out ?_) | (refine wpList_load_boxG (by rfl) _ rfl aggPool rfl (vW.cells r) rfl XW.out.box ?_))
  refine (eqPool_same vG vW r _ OG.out.reads XW.out.reads RS.out).mono ?_
  rintro e w16 ⟨rfl, hb⟩
  have YXA := Lib.hid (XA.out.below hb XA.out.lt)
  have YXW := Lib.hid (XW.out.below hb)
  have YXG := Lib.hid (XG.out.below hb XG.out.lt)
  have YOG := Lib.hid (OG.out.below hb)
  have YB := Lib.hid (B0.out.trans (hb.mono B0.out.size))
  clear B0 hb XA XW XG OG
  have XA := YXA
  clear YXA
  have XW := YXW
  clear YXW
  have XG := YXG
  clear YXG
  have OG := YOG
  clear YOG
  have B0 := YB
  clear YB
  go_wp2_with (refine wpList_load_box rfl _ rfl aggPool rfl (vG.cells r) rfl XG.out ?_)
  refine (markPool_any vG r 1 _ _ OG.out RS.out (by omega) (by omega)).mono ?_
  rintro e w17 ⟨rfl, hd, ht⟩
  have YXA := Lib.hid (XA.out.turned ht (fun e => by have := (HGB.out _ e).1; have := HN4.out; omega))
  have YXW := Lib.hid (XW.out.turned ht (fun e => by have := (HGB.out _ e).1; omega) (fun b e e' => by have := HWL.out b e; have := (HGB.out b e').1; omega))
  have YXG := Lib.hid (XG.out.turned ht (fun e => by have := (HGB.out _ e).2; omega))
  have DG := Lib.hid hd
  have YB := Lib.hid (B0.out.trans (below_of_turned ht (fun b e => by have := (HGB.out b e).1; have := HN4.out; omega) B0.out.size))
  clear XA XW XG OG B0 ht hd
  have XA := YXA
  have XW := YXW
  have XG := YXG
  have B0 := YB
  clear YXA YXW YXG YB
  obtain ⟨Q, HQ⟩ : ∃ Q, Hid (pend 1 r = Q) := ⟨_, Lib.hid rfl⟩
  have hQ1 : Q ≤ 100000000 := by rw [← HQ.out]; exact pend_small RS.out (by omega)
  rw [HQ.out]
  have hQ0 : ¬ (Q : Int) < 0 := by omega
  go_wp2_with (refine wpList_load_box rfl _ rfl aggPool rfl (vG.cells r) rfl XG.out ?_)
  refine (heldPool_any vG r 1 _ _ DG.out RS.out (by omega) (by omega)).mono ?_
  rintro e w18 ⟨rfl, hb⟩
  rw [HQ.out]
  have YXA := Lib.hid (XA.out.below hb XA.out.lt)
  have YXW := Lib.hid (XW.out.below hb)
  have YXG := Lib.hid (XG.out.below hb XG.out.lt)
  have YDG := Lib.hid (DG.out.below hb)
  have YB := Lib.hid (B0.out.trans (hb.mono B0.out.size))
  clear B0 hb XA XW XG DG
  have XA := YXA
  clear YXA
  have XW := YXW
  clear YXW
  have XG := YXG
  clear YXG
  have DG := YDG
  clear YDG
  have B0 := YB
  clear YB
  go_wp2_with (refine wpList_load_box rfl _ rfl aggPoolL rfl (v.cells p) rfl XA.out ?_)
  refine (toPool_any v p _ (HRD.out.below B0.out) HS.out).mono ?_
  rintro e w19 ⟨vP2, rfl, hown, hb⟩
  have OP2 := Lib.hid hown
  clear hown
  have YXA := Lib.hid (XA.out.below hb XA.out.lt)
  have YXW := Lib.hid (XW.out.below hb)
  have YXG := Lib.hid (XG.out.below hb XG.out.lt)
  have YDG := Lib.hid (DG.out.below hb)
  have YB := Lib.hid (B0.out.trans (hb.mono B0.out.size))
  clear B0 hb XA XW XG DG
  have XA := YXA
  clear YXA
  have XW := YXW
  clear YXW
  have XG := YXG
  clear YXG
  have DG := YDG
  clear YDG
  have B0 := YB
  clear YB
  go_wp2_with fail
  refine (toIntS_b _ fs _ (HFR.out.below B0.out HFL.out) HFN.out).mono ?_
  rintro e w19f ⟨fP2, rfl, hown, hb⟩
  have OFP2 := Lib.hid hown
  obtain ⟨_, fP2A, fP2c, rfl, _, _, _⟩ := sl_of_own hown
  clear hown
  have YXA := Lib.hid (XA.out.below hb XA.out.lt)
  have YXW := Lib.hid (XW.out.below hb)
  have YXG := Lib.hid (XG.out.below hb XG.out.lt)
  have YDG := Lib.hid (DG.out.below hb)
  have YOP2 := Lib.hid (OP2.out.below hb)
  have YB := Lib.hid (B0.out.trans (hb.mono B0.out.size))
  clear B0 hb XA XW XG DG OP2
  have XA := YXA
  clear YXA
  have XW := YXW
  clear YXW
  have XG := YXG
  clear YXG
  have DG := YDG
  clear YDG
  have OP2 := YOP2
  clear YOP2
  have B0 := YB
  clear YB
  go_wp2_with fail
  refine (HI.out _ _ _ OP2.out.reads HS.out (sl_of_own OFP2.out) (low_of_own OFP2.out) HFN.out).mono ?_
  rintro e w20 ⟨vH, rfl, hown, hb⟩
  have OH := Lib.hid hown
  clear hown
  clear OP2 OFP2
  have YXA := Lib.hid (XA.out.below hb XA.out.lt)
  have YXW := Lib.hid (XW.out.below hb)
  have YXG := Lib.hid (XG.out.below hb XG.out.lt)
  have YDG := Lib.hid (DG.out.below hb)
  have YB := Lib.hid (B0.out.trans (hb.mono B0.out.size))
  clear B0 hb XA XW XG DG
  have XA := YXA
  clear YXA
  have XW := YXW
  clear YXW
  have XG := YXG
  clear YXG
  have DG := YDG
  clear YDG
  have B0 := YB
  clear YB
  have HHL := Lib.hid OH.out.reads.lt
  go_wp2_with (refine wpList_put_mid rfl _ _ rfl rfl aggPool rfl (vH.cells r) rfl rfl OH.out.reads.one (box_new _ _ _) [] [.slice none 0 0, .slice none 0 0, .slice none 0 0, .int .i64 0, .slice none 0 0, .slice none 0 0, .slice none 0 0, .bool false, .slice none 0 0, .int .i64 0, .bool false] [] (vH.cells r) rfl rfl rfl rfl ?_)
  intro W21 P1 Z1
  have hb := putAt_new P1
  have XH := Lib.hid (show PBox W21 _ vH r from ⟨Z1, OH.out.reads.below hb⟩)
  clear P1 Z1
  have hW21 : w20.heap.size < W21.heap.size := XH.out.box.lt
  have YXA := Lib.hid (XA.out.below hb XA.out.lt)
  have YXW := Lib.hid (XW.out.below hb)
  have YXG := Lib.hid (XG.out.below hb XG.out.lt)
  have YDG := Lib.hid (DG.out.below hb)
  have YOH := Lib.hid (OH.out.below hb)
  have YB := Lib.hid (B0.out.trans (hb.mono B0.out.size))
  clear B0 hb XA XW XG DG OH
  have XA := YXA
  clear YXA
  have XW := YXW
  clear YXW
  have XG := YXG
  clear YXG
  have DG := YDG
  clear YDG
  have OH := YOH
  clear YOH
  have B0 := YB
  clear YB
  clear OH
  go_wp2_with (first | (refine wpList_load_box rfl _ rfl aggPool rfl (vH.cells r) rfl XH.out.box ?_) | (refine wpList_load_box rfl _ rfl aggPool rfl (vW.cells r) rfl XW.out.box ?_))
  refine (eqPool_same vH vW r _ XH.out.reads XW.out.reads RS.out).mono ?_
  rintro e w22 ⟨rfl, hb⟩
  have YXA := Lib.hid (XA.out.below hb XA.out.lt)
  have YXW := Lib.hid (XW.out.below hb)
  have YXG := Lib.hid (XG.out.below hb XG.out.lt)
  have YDG := Lib.hid (DG.out.below hb)
  have YXH := Lib.hid (XH.out.below hb)
  have YB := Lib.hid (B0.out.trans (hb.mono B0.out.size))
  clear B0 hb XA XW XG DG XH
  have XA := YXA
  clear YXA
  have XW := YXW
  clear YXW
  have XG := YXG
  clear YXG
  have DG := YDG
  clear YDG
  have XH := YXH
  clear YXH
  have B0 := YB
  clear YB
  go_wp2_with (refine wpList_load_box rfl _ rfl aggPool rfl (vG.cells r) rfl XG.out ?_)
  refine (heldPool_any vG r 1 _ _ DG.out RS.out (by omega) (by omega)).mono ?_
  rintro e w23 ⟨rfl, hb⟩
  rw [HQ.out]
  have YXA := Lib.hid (XA.out.below hb XA.out.lt)
  have YXW := Lib.hid (XW.out.below hb)
  have YXG := Lib.hid (XG.out.below hb XG.out.lt)
  have YDG := Lib.hid (DG.out.below hb)
  have YXH := Lib.hid (XH.out.below hb)
  have YB := Lib.hid (B0.out.trans (hb.mono B0.out.size))
  clear B0 hb XA XW XG DG XH
  have XA := YXA
  clear YXA
  have XW := YXW
  clear YXW
  have XG := YXG
  clear YXG
  have DG := YDG
  clear YDG
  have XH := YXH
  clear YXH
  have B0 := YB
  clear YB
  go_wp2
  go_ret
  exact ⟨rfl, B0.out⟩
end Go.Proofs.YtobjgdnmlibofaaGreat
