/-
  spec's DiskRot.
-/
import Derived.Test.YtobjgdnmlibofaaGreatRotB
set_option maxRecDepth 100000
namespace Go.Proofs.YtobjgdnmlibofaaGreat
open Go.ChangeShapes Go.WideShapes Go.ChangeAt Go.RowKit Go.Proofs.Palim

set_option maxHeartbeats 2000000 in
theorem DiskRot_any (v0 v1 vl : Value) (d : DiskM) (side at_ k mask : Int) (w : World) (h : DiskR w v0 v1 vl d) (hs : DiskShort d) :
    Calls Tryz.prog 42 #[.agg #[v0, v1, vl], .int .i64 side, .int .i64 at_, .int .i64 k, .int .i64 mask] w (NewDisk w (rotM d side at_ k mask)) := by
  have hnot : ∀ (x : Bool) (w : World), (Op.unary .not (.bool x)).run Tryz.prog w = .ok (.bool (!x)) w := fun _ _ => rfl
  obtain ⟨_, A0, c0, rfl, _⟩ := h.r0
  obtain ⟨_, A1, c1, rfl, _⟩ := h.r1
  obtain ⟨_, Al, cl, rfl, _⟩ := h.rl
  have HD := Lib.hid h
  have HS := Lib.hid hs
  have hnl := hs.nl
  clear h hs
  obtain ⟨hA, hR, hsz, hB⟩ := box2 w #[.slice A0 d.s0.length c0, .slice A1 d.s1.length c1, .slice Al d.late.length cl] #[.slice none 0 0, .slice none 0 0, .slice none 0 0] 39 39
  have RD := Lib.hid (HD.out.below hB)
  have XD := Lib.hid hA
  have XR := Lib.hid hR
  have B0 := Lib.hid hB
  clear hA hR hB
  by_cases hok : DiskOkM d
  · have hok' := Lib.hid (decide_eq_true hok)
    have HK := Lib.hid hok
    go_enter Tryz.func42, Tryz.ntmps42
    go_wp2_with fail
    refine (DiskOk_is _ _ _ d _ RD.out HS.out true hok'.out).mono ?_
    rintro e w1 ⟨rfl, hb⟩
    have RD1 := Lib.hid (RD.out.below hb)
    have XD1 := Lib.hid (XD.out.below hb (by omega))
    have XR1 := Lib.hid (XR.out.below hb (by omega))
    have B1 := Lib.hid (B0.out.trans (hb.mono (by omega)))
    have hs1 : w.heap.size + 2 ≤ w1.heap.size := by have := hb.size; omega
    clear hb RD XD XR B0 hsz hok hok'
    obtain ⟨x0, x1, x2⟩ := XD1.out.three
    go_wp2_with fail
    refine (l2Copy_any _ _ _ d _ RD1.out HS.out).mono ?_
    rintro e w2 ⟨u0, u1, ul, rfl, ho, hb⟩
    obtain ⟨U0, e0, U1, e1, Ul, el, rfl, rfl, rfl⟩ := ho.forms
    have DR := Lib.hid (dr_start 39 XR1.out B1.out hs1 ho hb)
    have hn := Below.new (w := w2) (.cells #[.slice U0 d.s0.length e0, .slice U1 d.s1.length e1, .slice Ul d.late.length el] 39)
    have RD2 := Lib.hid ((RD1.out.below hb).below hn)
    have XD2 := Lib.hid ((XD1.out.below hb (by omega)).alloc (.cells #[.slice U0 d.s0.length e0, .slice U1 d.s1.length e1, .slice Ul d.late.length el] 39))
    clear ho hb hn RD1 XD1 XR1 B1 x0 x1 x2
    have HN := Lib.hid HK.out.2.2.1
    have hzero : (⟨#[]⟩ : ByteArray).size ≤ maxLen := Nat.zero_le _
    obtain ⟨x0, x1, x2⟩ := XD2.out.three
    by_cases hth : There d.s0.length side at_ 0
    · have HTH := Lib.hid hth
      go_wp2_with fail
      refine (l2There_is _ _ _ d.s0.length _ side at_ ⟨#[]⟩ _ hzero true (decide_eq_true hth)).mono ?_
      rintro e w3 ⟨rfl, hb⟩
      have DR1 := Lib.hid (DR.out.on hb)
      clear hb DR XD2 x0 x1 x2 RD2
      obtain ⟨hth1, hth2, hth3, hth4, _⟩ := hth
      obtain ⟨a, rfl⟩ : ∃ a : Nat, at_ = a := ⟨at_.toNat, by omega⟩
      have hsd : side = 0 ∨ side = 1 := by omega
      rcases hsd with rfl | rfl
      · have hal : a < d.s0.length := by omega
        obtain ⟨g, c', hgf, hgb, hgl⟩ := DR1.out.own.o0.form (by omega)
        injection hgf with hg1 hg2 hg3
        subst hg1
        clear hg2 hg3
        obtain ⟨⟨u, hu, hct⟩, hft, _, hglt⟩ := own_at DR1.out.own.o0 a (by omega)
        have HT := Lib.hid (show sect d 0 (a : Int) = d.s0[a] from by unfold sect sideOf; simp [hal])
        obtain rfl : u = .string (sect d 0 (a : Int)) := by rw [scs_at d.s0 a hal] at hu; rw [HT.out]; exact (Option.some.inj hu).symm
        have hz : (sect d 0 (a : Int)).size ≤ 1048576 := by rw [HT.out]; exact HS.out.z0 _ (List.getElem_mem hal)
        have hgx : g ≠ w2.heap.size := fun e => DR1.out.nx (Or.inl (by rw [e]; rfl))
        clear hu HT
        by_cases hcan : 0 ≤ k ∧ k < (sect d 0 (a : Int)).size ∧ 1 ≤ mask ∧ mask ≤ 255
        · have HF := Lib.hid (show rotM d 0 (a : Int) k mask = putM d 0 (a : Int) (rotB (sect d 0 (a : Int)) k.toNat mask.toNat) from by unfold rotM; rw [if_pos HK.out, if_pos ⟨HTH.out, hcan⟩])
          obtain ⟨hk0, hk1, hm0, hm1⟩ := hcan
          obtain ⟨kk, rfl⟩ : ∃ kk : Nat, k = kk := ⟨k.toNat, by omega⟩
          obtain ⟨mm, rfl⟩ : ∃ mm : Nat, mask = mm := ⟨mask.toNat, by omega⟩
          obtain ⟨t, HTT⟩ : ∃ t, Hid (sect d 0 (a : Int) = t) := ⟨_, Lib.hid rfl⟩
          rw [HTT.out] at hz hk1 hct HF
          obtain ⟨cap, w4, hcv, hb4, hs4, BB⟩ := bytes_new t w3
          have DR4 := Lib.hid (DR1.out.on hb4)
          have hkl : kk < t.data.toList.length := by simpa using (by omega : kk < t.size)
          obtain ⟨hbc, hbf⟩ := BB kk hkl
          have BBs := BB.set kk (UInt8.ofNat (t.data.toList[kk].toNat ^^^ mm)) hkl
          have hxo := rot_byte t.data.toList[kk] mm (by omega)
          have hwr : IntKind.u8.wrap (mm : Int) = (mm : Int) := IntWalk.u8_in _ ⟨by omega, by omega⟩
          have hct4 := (hb4.cell (p := ⟨g, a, none⟩) hglt).trans hct
          obtain ⟨z0, z1, z2⟩ := DR4.out.xo.three
          have HE := Lib.hid (show (⟨(t.data.toList.set kk (UInt8.ofNat (t.data.toList[kk].toNat ^^^ mm))).toArray⟩ : ByteArray) = rotB t kk mm from by
            unfold rotB
            rw [show t.data.toList.getD kk 0 = t.data.toList[kk] from by simp [List.getD, List.getElem?_eq_getElem hkl]])
          have hlen : (t.data.toList.set kk (UInt8.ofNat (t.data.toList[kk].toNat ^^^ mm))).length = t.size := by
            show _ = t.data.size
            simp
          have hbk := bytes_back _ w3.heap.size cap _ BBs
          have hbd := bytes_back _ w3.heap.size cap _ BBs.drew
          rw [hlen, HE.out] at hbk hbd
          generalize t.data.toList[kk] = c at hbc hxo hbk hbd BBs HE
          generalize UInt8.ofNat (c.toNat ^^^ mm) = z at hxo hbk hbd BBs HE
          have DR5 := Lib.hid (DR1.out.on (hb4.setCell (p := ⟨w3.heap.size, kk, none⟩) (Nat.le_refl _) (.int .u8 (z.toNat : Int))))
          clear BBs BB HE hlen hb4 z0 z1 z2
          have hk2 : (kk : Int) < (t.size : Int) := by omega
          obtain ⟨z0, z1, z2⟩ := DR1.out.xo.three
          obtain ⟨y0, y1, y2⟩ := DR5.out.xo.three
          obtain ⟨⟨u5, _, hct5⟩, hft5, _, _⟩ := own_at DR5.out.own.o0 a (by omega)
          go_wp2_with fail
          generalize hw5 : w4.setCell ⟨w3.heap.size, kk, none⟩ (.int .u8 (z.toNat : Int)) = w5 at DR5 hbk hbd y0 y1 y2 hct5 hft5 ⊢
          clear hw5 hct hft hct4 hxo hbc hbf z0 z1 z2 hcv
          go_still_tail 8, (by kernel_rfl)
          change wpList _ _ _ _ _ w5.drew
          have DR6 := Lib.hid (DR5.out.on (Below.refl _ w5).drew)
          have hput := DR6.out.own.put0 a (rotB t kk mm)
          have DRX := Lib.hid (DR6.out.turned hput.2 hput.1)
          obtain ⟨r0, r1, r2⟩ := DR5.out.xr.three
          have q0 := Lib.hid (DR5.out.xr.other (p := ⟨g, a, none⟩) (by simp; omega) (.string (rotB t kk mm)))
          have f0 := DR5.out.xr.open_ 0
          have f1 := DR5.out.xr.open_ 1
          have f2 := DR5.out.xr.open_ 2
          have hn1 : ¬ g = w.heap.size + 1 := by omega
          have hn2 : ¬ w.heap.size + 1 = g := by omega
          have hn3 : ¬ w2.heap.size = g := fun e => hgx e.symm
          clear hput DR5
          go_wp2
          have q1 := q0.out.set 0 (.slice (some ⟨g, 0, none⟩) d.s0.length e0)
          have q2 := q1.set 1 (.slice U1 d.s1.length e1)
          have q3 := q2.set 2 (.slice Ul d.late.length el)
          refine bodyPost_ret (v := .agg #[.slice (some ⟨g, 0, none⟩) d.s0.length e0, .slice U1 d.s1.length e1, .slice Ul d.late.length el]) (by simp [results, Tryz.results42, go_sem, q1.cell 0 rfl, q2.cell 1 rfl, q3.cell 2 rfl]) rfl ?_
          rw [HF.out]
          exact DRX.out.agg
        · have HF := Lib.hid (show rotM d 0 (a : Int) k mask = d from by unfold rotM; rw [if_pos HK.out, if_neg (fun h => hcan h.2)])
          have hcs : k < 0 ∨ (0 ≤ k ∧ (sect d 0 (a : Int)).size ≤ k) ∨ (0 ≤ k ∧ k < (sect d 0 (a : Int)).size ∧ mask < 1) ∨ (0 ≤ k ∧ k < (sect d 0 (a : Int)).size ∧ 1 ≤ mask ∧ 255 < mask) := by omega
          clear hcan
          have DRX := DR1
          generalize sect d 0 (a : Int) = t at hct hz hcs
          obtain ⟨z0, z1, z2⟩ := DRX.out.xo.three
          obtain ⟨r0, r1, r2⟩ := DRX.out.xr.three
          have f0 := DRX.out.xr.open_ 0
          have f1 := DRX.out.xr.open_ 1
          have f2 := DRX.out.xr.open_ 2
          rcases hcs with k1 | ⟨k1, k2⟩ | ⟨k1, k2, k3⟩ | ⟨k1, k2, k3, k4⟩
          all_goals
            go_wp2
            refine bodyPost_ret (v := .agg #[.slice (some ⟨g, 0, none⟩) d.s0.length e0, .slice U1 d.s1.length e1, .slice Ul d.late.length el]) (by simp [results, Tryz.results42, go_sem, DRX.out.cells.1, DRX.out.cells.2.1, DRX.out.cells.2.2]) rfl ?_
            rw [HF.out]
            exact DRX.out.agg
      · have hal : a < d.s1.length := by have := HN.out; omega
        obtain ⟨g, c', hgf, hgb, hgl⟩ := DR1.out.own.o1.form (by omega)
        injection hgf with hg1 hg2 hg3
        subst hg1
        clear hg2 hg3
        obtain ⟨⟨u, hu, hct⟩, hft, _, hglt⟩ := own_at DR1.out.own.o1 a (by omega)
        have HT := Lib.hid (show sect d 1 (a : Int) = d.s1[a] from by unfold sect sideOf; simp [hal])
        obtain rfl : u = .string (sect d 1 (a : Int)) := by rw [scs_at d.s1 a hal] at hu; rw [HT.out]; exact (Option.some.inj hu).symm
        have hz : (sect d 1 (a : Int)).size ≤ 1048576 := by rw [HT.out]; exact HS.out.z1 _ (List.getElem_mem hal)
        have hgx : g ≠ w2.heap.size := fun e => DR1.out.nx (Or.inr (Or.inl (by rw [e]; rfl)))
        clear hu HT
        by_cases hcan : 0 ≤ k ∧ k < (sect d 1 (a : Int)).size ∧ 1 ≤ mask ∧ mask ≤ 255
        · have HF := Lib.hid (show rotM d 1 (a : Int) k mask = putM d 1 (a : Int) (rotB (sect d 1 (a : Int)) k.toNat mask.toNat) from by unfold rotM; rw [if_pos HK.out, if_pos ⟨HTH.out, hcan⟩])
          obtain ⟨hk0, hk1, hm0, hm1⟩ := hcan
          obtain ⟨kk, rfl⟩ : ∃ kk : Nat, k = kk := ⟨k.toNat, by omega⟩
          obtain ⟨mm, rfl⟩ : ∃ mm : Nat, mask = mm := ⟨mask.toNat, by omega⟩
          obtain ⟨t, HTT⟩ : ∃ t, Hid (sect d 1 (a : Int) = t) := ⟨_, Lib.hid rfl⟩
          rw [HTT.out] at hz hk1 hct HF
          obtain ⟨cap, w4, hcv, hb4, hs4, BB⟩ := bytes_new t w3
          have DR4 := Lib.hid (DR1.out.on hb4)
          have hkl : kk < t.data.toList.length := by simpa using (by omega : kk < t.size)
          obtain ⟨hbc, hbf⟩ := BB kk hkl
          have BBs := BB.set kk (UInt8.ofNat (t.data.toList[kk].toNat ^^^ mm)) hkl
          have hxo := rot_byte t.data.toList[kk] mm (by omega)
          have hwr : IntKind.u8.wrap (mm : Int) = (mm : Int) := IntWalk.u8_in _ ⟨by omega, by omega⟩
          have hct4 := (hb4.cell (p := ⟨g, a, none⟩) hglt).trans hct
          obtain ⟨z0, z1, z2⟩ := DR4.out.xo.three
          have HE := Lib.hid (show (⟨(t.data.toList.set kk (UInt8.ofNat (t.data.toList[kk].toNat ^^^ mm))).toArray⟩ : ByteArray) = rotB t kk mm from by
            unfold rotB
            rw [show t.data.toList.getD kk 0 = t.data.toList[kk] from by simp [List.getD, List.getElem?_eq_getElem hkl]])
          have hlen : (t.data.toList.set kk (UInt8.ofNat (t.data.toList[kk].toNat ^^^ mm))).length = t.size := by
            show _ = t.data.size
            simp
          have hbk := bytes_back _ w3.heap.size cap _ BBs
          have hbd := bytes_back _ w3.heap.size cap _ BBs.drew
          rw [hlen, HE.out] at hbk hbd
          generalize t.data.toList[kk] = c at hbc hxo hbk hbd BBs HE
          generalize UInt8.ofNat (c.toNat ^^^ mm) = z at hxo hbk hbd BBs HE
          have DR5 := Lib.hid (DR1.out.on (hb4.setCell (p := ⟨w3.heap.size, kk, none⟩) (Nat.le_refl _) (.int .u8 (z.toNat : Int))))
          clear BBs BB HE hlen hb4 z0 z1 z2
          have hk2 : (kk : Int) < (t.size : Int) := by omega
          obtain ⟨z0, z1, z2⟩ := DR1.out.xo.three
          obtain ⟨y0, y1, y2⟩ := DR5.out.xo.three
          obtain ⟨⟨u5, _, hct5⟩, hft5, _, _⟩ := own_at DR5.out.own.o1 a (by omega)
          go_wp2_with fail
          generalize hw5 : w4.setCell ⟨w3.heap.size, kk, none⟩ (.int .u8 (z.toNat : Int)) = w5 at DR5 hbk hbd y0 y1 y2 hct5 hft5 ⊢
          clear hw5 hct hft hct4 hxo hbc hbf z0 z1 z2 hcv
          go_still_tail 8, (by kernel_rfl)
          change wpList _ _ _ _ _ w5.drew
          have DR6 := Lib.hid (DR5.out.on (Below.refl _ w5).drew)
          have hput := DR6.out.own.put1 a (rotB t kk mm)
          have DRX := Lib.hid (DR6.out.turned hput.2 hput.1)
          obtain ⟨r0, r1, r2⟩ := DR5.out.xr.three
          have q0 := Lib.hid (DR5.out.xr.other (p := ⟨g, a, none⟩) (by simp; omega) (.string (rotB t kk mm)))
          have f0 := DR5.out.xr.open_ 0
          have f1 := DR5.out.xr.open_ 1
          have f2 := DR5.out.xr.open_ 2
          have hn1 : ¬ g = w.heap.size + 1 := by omega
          have hn2 : ¬ w.heap.size + 1 = g := by omega
          have hn3 : ¬ w2.heap.size = g := fun e => hgx e.symm
          clear hput DR5
          go_wp2
          have q1 := q0.out.set 0 (.slice U0 d.s0.length e0)
          have q2 := q1.set 1 (.slice (some ⟨g, 0, none⟩) d.s1.length e1)
          have q3 := q2.set 2 (.slice Ul d.late.length el)
          refine bodyPost_ret (v := .agg #[.slice U0 d.s0.length e0, .slice (some ⟨g, 0, none⟩) d.s1.length e1, .slice Ul d.late.length el]) (by simp [results, Tryz.results42, go_sem, q1.cell 0 rfl, q2.cell 1 rfl, q3.cell 2 rfl]) rfl ?_
          rw [HF.out]
          exact DRX.out.agg
        · have HF := Lib.hid (show rotM d 1 (a : Int) k mask = d from by unfold rotM; rw [if_pos HK.out, if_neg (fun h => hcan h.2)])
          have hcs : k < 0 ∨ (0 ≤ k ∧ (sect d 1 (a : Int)).size ≤ k) ∨ (0 ≤ k ∧ k < (sect d 1 (a : Int)).size ∧ mask < 1) ∨ (0 ≤ k ∧ k < (sect d 1 (a : Int)).size ∧ 1 ≤ mask ∧ 255 < mask) := by omega
          clear hcan
          have DRX := DR1
          generalize sect d 1 (a : Int) = t at hct hz hcs
          obtain ⟨z0, z1, z2⟩ := DRX.out.xo.three
          obtain ⟨r0, r1, r2⟩ := DRX.out.xr.three
          have f0 := DRX.out.xr.open_ 0
          have f1 := DRX.out.xr.open_ 1
          have f2 := DRX.out.xr.open_ 2
          rcases hcs with k1 | ⟨k1, k2⟩ | ⟨k1, k2, k3⟩ | ⟨k1, k2, k3, k4⟩
          all_goals
            go_wp2
            refine bodyPost_ret (v := .agg #[.slice U0 d.s0.length e0, .slice (some ⟨g, 0, none⟩) d.s1.length e1, .slice Ul d.late.length el]) (by simp [results, Tryz.results42, go_sem, DRX.out.cells.1, DRX.out.cells.2.1, DRX.out.cells.2.2]) rfl ?_
            rw [HF.out]
            exact DRX.out.agg
    · have HF := Lib.hid (show rotM d side at_ k mask = d from by unfold rotM; rw [if_pos HK.out, if_neg (fun h => hth h.1)])
      go_wp2_with fail
      refine (l2There_is _ _ _ d.s0.length _ side at_ ⟨#[]⟩ _ hzero false (decide_eq_false hth)).mono ?_
      rintro e w3 ⟨rfl, hb⟩
      have DRX := Lib.hid (DR.out.on hb)
      clear hb DR XD2 x0 x1 x2 RD2
      obtain ⟨z0, z1, z2⟩ := DRX.out.xo.three
      obtain ⟨r0, r1, r2⟩ := DRX.out.xr.three
      have f0 := DRX.out.xr.open_ 0
      have f1 := DRX.out.xr.open_ 1
      have f2 := DRX.out.xr.open_ 2
      go_wp2
      refine bodyPost_ret (v := .agg #[.slice U0 d.s0.length e0, .slice U1 d.s1.length e1, .slice Ul d.late.length el]) (by simp [results, Tryz.results42, go_sem, DRX.out.cells.1, DRX.out.cells.2.1, DRX.out.cells.2.2]) rfl ?_
      rw [HF.out]
      exact DRX.out.agg
  · have hok' := Lib.hid (decide_eq_false hok)
    have HF := Lib.hid (show rotM d side at_ k mask = noDisk from if_neg hok)
    clear hok
    go_enter Tryz.func42, Tryz.ntmps42
    go_wp2_with fail
    refine (DiskOk_is _ _ _ d _ RD.out HS.out false hok'.out).mono ?_
    rintro e w1 ⟨rfl, hb⟩
    have XR1 := Lib.hid (XR.out.below hb (by omega))
    have B1 := Lib.hid (B0.out.trans (hb.mono (by omega)))
    clear hb RD XD XR B0 hsz
    obtain ⟨x0, x1, x2⟩ := XR1.out.three
    have f0 := XR1.out.open_ 0
    have f1 := XR1.out.open_ 1
    have f2 := XR1.out.open_ 2
    go_wp2
    have q1 := XR1.out.set 0 (.slice none 0 0)
    have q2 := q1.set 1 (.slice none 0 0)
    have q3 := q2.set 2 (.slice none 0 0)
    refine bodyPost_ret (v := .agg #[.slice none 0 0, .slice none 0 0, .slice none 0 0]) (by simp [results, Tryz.results42, go_sem, q1.cell 0 rfl, q2.cell 1 rfl, q3.cell 2 rfl]) rfl ?_
    rw [HF.out]
    exact ⟨_, _, _, rfl, noDisk_own _ _, ((B1.out.setCell (by simp) _).setCell (by simp) _).setCell (by simp) _⟩
end Go.Proofs.YtobjgdnmlibofaaGreat
