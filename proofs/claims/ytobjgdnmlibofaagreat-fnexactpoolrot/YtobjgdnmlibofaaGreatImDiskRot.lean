/-
  impl's DiskRot.
-/
import Derived.Test.YtobjgdnmlibofaaGreatDiskB
set_option maxRecDepth 100000
namespace Go.Proofs.YtobjgdnmlibofaaGreat
open Go.ChangeShapes Go.WideShapes Go.ChangeAt Go.RowKit Go.Proofs.Palim

set_option maxHeartbeats 2000000 in
theorem ImplDiskRot_any (d : DiskM) (side at_ k mask : Int) (v0 v1 vl : Value) (w : World) (h : DiskR w v0 v1 vl d) (hs : DiskShort d) :
    Calls Tryz.prog 43 #[.agg #[v0, v1, vl], .int .i64 side, .int .i64 at_, .int .i64 k, .int .i64 mask] w (NewDisk w (rotM d side at_ k mask)) := by
  have hnot : ∀ (x : Bool) (w : World), (Op.unary .not (.bool x)).run Tryz.prog w = .ok (.bool (!x)) w := fun _ _ => rfl
  obtain ⟨_, A0, c0, rfl, _⟩ := h.r0
  obtain ⟨_, A1, c1, rfl, _⟩ := h.r1
  obtain ⟨_, Al, cl, rfl, _⟩ := h.rl
  have HD := Lib.hid h
  have HS := Lib.hid hs
  have hnl := hs.nl
  clear h hs
  obtain ⟨hA, hR, hsz, hB⟩ := box2 w #[.slice A0 d.s0.length c0, .slice A1 d.s1.length c1, .slice Al d.late.length cl] #[.slice none 0 0, .slice none 0 0, .slice none 0 0] 39 39
  have RD := Lib.hid (HD.out.below hB)
  have XD := Lib.hid hA
  have XR := Lib.hid hR
  have B0 := Lib.hid hB
  clear hA hR hB
  by_cases hok : DiskOkM d
  · have hok' := Lib.hid (decide_eq_true hok)
    have HK := Lib.hid hok
    go_enter Tryz.func43, Tryz.ntmps43
    go_wp2_with fail
    refine (ImOk_is _ _ _ d _ RD.out HS.out true hok'.out).mono ?_
    rintro e w1 ⟨rfl, hb⟩
    have RD1 := Lib.hid (RD.out.below hb)
    have XD1 := Lib.hid (XD.out.below hb (by omega))
    have XR1 := Lib.hid (XR.out.below hb (by omega))
    have B1 := Lib.hid (B0.out.trans (hb.mono (by omega)))
    have hs1 : w.heap.size + 2 ≤ w1.heap.size := by have := hb.size; omega
    clear hb RD XD XR B0 hsz hok hok'
    obtain ⟨x0, x1, x2⟩ := XD1.out.three
    go_wp2_with fail
    refine (diskCopy_any _ _ _ d _ RD1.out HS.out).mono ?_
    rintro e w2 ⟨u0, u1, ul, rfl, ho, hb⟩
    obtain ⟨U0, e0, U1, e1, Ul, el, rfl, rfl, rfl⟩ := ho.forms
    have DR := Lib.hid (dr_start 108 XR1.out B1.out hs1 ho hb)
    have hn := Below.new (w := w2) (.cells #[.slice U0 d.s0.length e0, .slice U1 d.s1.length e1, .slice Ul d.late.length el] 108)
    have RD2 := Lib.hid ((RD1.out.below hb).below hn)
    have XD2 := Lib.hid ((XD1.out.below hb (by omega)).alloc (.cells #[.slice U0 d.s0.length e0, .slice U1 d.s1.length e1, .slice Ul d.late.length el] 108))
    clear ho hb hn RD1 XD1 XR1 B1 x0 x1 x2
    have HN := Lib.hid HK.out.2.2.1
    clear RD2 XD2
    obtain ⟨x0, x1, x2⟩ := DR.out.xo.three
    by_cases hth : There d.s0.length side at_ 0
    · have HTH := Lib.hid hth
      have HHAS := Lib.hid (show Has d.s0.length d.s1.length side at_ from by rw [HN.out]; exact ((has_there _ _ _ _).2 hth).1)
      go_wp2_with fail
      refine (has_are _ _ d.s0.length _ d.s1.length _ HN.out side at_ _ true (decide_eq_true hth)).mono ?_
      rintro e w3 ⟨rfl, hb⟩
      have DR1 := Lib.hid (DR.out.on hb)
      clear hb DR x0 x1 x2 hth
      have hz : (sect d side at_).size ≤ 1048576 := by
        have hm : (sect d side at_) = ⟨#[]⟩ ∨ (sect d side at_) ∈ d.s0 ∨ (sect d side at_) ∈ d.s1 := by
          unfold sect sideOf
          split
          · rcases Nat.lt_or_ge at_.toNat d.s0.length with h | h
            · right; left; simp [List.getD, List.getElem?_eq_getElem h]
            · left; simp [List.getD, List.getElem?_eq_none h]
          · rcases Nat.lt_or_ge at_.toNat d.s1.length with h | h
            · right; right; simp [List.getD, List.getElem?_eq_getElem h]
            · left; simp [List.getD, List.getElem?_eq_none h]
        rcases hm with h | h | h
        · rw [h]; exact Nat.zero_le _
        · exact HS.out.z0 _ h
        · exact HS.out.z1 _ h
      by_cases hmk : 1 ≤ mask ∧ mask ≤ 255
      · obtain ⟨hm0, hm1⟩ := hmk
        obtain ⟨x0, x1, x2⟩ := DR1.out.xo.three
        go_wp2_with fail
        refine (text_any _ _ _ d side at_ _ DR1.out.own.reads HS.out.n0 HS.out.n1 HHAS.out).mono ?_
        rintro e w4 ⟨rfl, hb⟩
        obtain ⟨t, HTT⟩ : ∃ t, Hid (sect d side at_ = t) := ⟨_, Lib.hid rfl⟩
        rw [show (sideOf d side).getD at_.toNat ⟨#[]⟩ = t from HTT.out]
        rw [HTT.out] at hz
        have DR2 := Lib.hid (DR1.out.on hb)
        clear hb DR1 x0 x1 x2
        obtain ⟨cap, w5, hcv, hb5, hs5, BB⟩ := bytes_new t w4
        have DR3 := Lib.hid (DR2.out.on hb5)
        by_cases hkk : 0 ≤ k ∧ k < t.size
        · have HF := Lib.hid (show rotM d side at_ k mask = putM d side at_ (rotB t k.toNat mask.toNat) from by unfold rotM; rw [if_pos HK.out, if_pos ⟨HTH.out, hkk.1, by rw [HTT.out]; exact hkk.2, hm0, hm1⟩, HTT.out])
          obtain ⟨hk0, hk1⟩ := hkk
          obtain ⟨kk, rfl⟩ : ∃ kk : Nat, k = kk := ⟨k.toNat, by omega⟩
          obtain ⟨mm, rfl⟩ : ∃ mm : Nat, mask = mm := ⟨mask.toNat, by omega⟩
          have hkl : kk < t.data.toList.length := by simpa using (by omega : kk < t.size)
          obtain ⟨hbc, hbf⟩ := BB kk hkl
          have BBs := BB.set kk (UInt8.ofNat (t.data.toList[kk].toNat ^^^ mm)) hkl
          have hxo := rot_byte t.data.toList[kk] mm (by omega)
          have hwr : IntKind.u8.wrap (mm : Int) = (mm : Int) := IntWalk.u8_in _ ⟨by omega, by omega⟩
          have HE := Lib.hid (show (⟨(t.data.toList.set kk (UInt8.ofNat (t.data.toList[kk].toNat ^^^ mm))).toArray⟩ : ByteArray) = rotB t kk mm from by
            unfold rotB
            rw [show t.data.toList.getD kk 0 = t.data.toList[kk] from by simp [List.getD, List.getElem?_eq_getElem hkl]])
          have hlen : (t.data.toList.set kk (UInt8.ofNat (t.data.toList[kk].toNat ^^^ mm))).length = t.size := by
            show _ = t.data.size
            simp
          have hbk := bytes_back _ w4.heap.size cap _ BBs
          rw [hlen, HE.out] at hbk
          generalize t.data.toList[kk] = c at hbc hxo hbk BBs HE
          generalize UInt8.ofNat (c.toNat ^^^ mm) = z at hxo hbk BBs HE
          have DR5 := Lib.hid (DR2.out.on (hb5.setCell (p := ⟨w4.heap.size, kk, none⟩) (Nat.le_refl _) (.int .u8 (z.toNat : Int))))
          have hk2 : (kk : Int) < (t.size : Int) := by omega
          obtain ⟨y0, y1, y2⟩ := DR5.out.xo.three
          clear BBs BB HE hlen hb5 DR2 DR3
          go_wp2_with fail
          refine (put_any _ _ _ d _ side at_ (rotB t kk mm) _ DR5.out.own HS.out.n0 HS.out.n1 HHAS.out).mono ?_
          rintro e w6 ⟨rfl, ho, ht⟩
          have DRX := Lib.hid (DR5.out.turned ht ho)
          clear ho ht DR5 y0 y1 y2 hbk hcv hbc hbf hxo
          obtain ⟨z0, z1, z2⟩ := DRX.out.xo.three
          go_wp2_with fail
          refine (disk_any _ _ _ _ _ _ _ _ _ _).mono ?_
          rintro e w9 ⟨rfl, hb⟩
          have DRY := Lib.hid (DRX.out.on hb)
          clear hb DRX z0 z1 z2
          obtain ⟨r0, r1, r2⟩ := DRY.out.xr.three
          have f0 := DRY.out.xr.open_ 0
          have f1 := DRY.out.xr.open_ 1
          have f2 := DRY.out.xr.open_ 2
          go_wp2
          refine bodyPost_ret (v := .agg #[.slice U0 d.s0.length e0, .slice U1 d.s1.length e1, .slice Ul d.late.length el]) (by simp [results, Tryz.results43, go_sem, DRY.out.cells.1, DRY.out.cells.2.1, DRY.out.cells.2.2]) rfl ?_
          rw [HF.out]
          exact DRY.out.agg
        · have HF := Lib.hid (show rotM d side at_ k mask = d from by unfold rotM; rw [if_pos HK.out, if_neg (fun h => hkk ⟨h.2.1, by rw [← HTT.out]; exact h.2.2.1⟩)])
          have hcs : k < 0 ∨ (0 ≤ k ∧ (t.size : Int) ≤ k) := by omega
          clear hkk BB hb5 DR2
          have DRX := DR3
          clear DR3
          rcases hcs with k1 | ⟨k1, k2⟩
          all_goals
            obtain ⟨z0, z1, z2⟩ := DRX.out.xo.three
            go_wp2_with fail
            refine (disk_any _ _ _ _ _ _ _ _ _ _).mono ?_
            rintro e w9 ⟨rfl, hb⟩
            have DRY := Lib.hid (DRX.out.on hb)
            clear hb DRX z0 z1 z2
            obtain ⟨r0, r1, r2⟩ := DRY.out.xr.three
            have f0 := DRY.out.xr.open_ 0
            have f1 := DRY.out.xr.open_ 1
            have f2 := DRY.out.xr.open_ 2
            go_wp2
            refine bodyPost_ret (v := .agg #[.slice U0 d.s0.length e0, .slice U1 d.s1.length e1, .slice Ul d.late.length el]) (by simp [results, Tryz.results43, go_sem, DRY.out.cells.1, DRY.out.cells.2.1, DRY.out.cells.2.2]) rfl ?_
            rw [HF.out]
            exact DRY.out.agg
      · have HF := Lib.hid (show rotM d side at_ k mask = d from by unfold rotM; rw [if_pos HK.out, if_neg (fun h => hmk h.2.2.2)])
        have hcs : mask < 1 ∨ (1 ≤ mask ∧ 255 < mask) := by omega
        clear hmk
        have DRX := DR1
        clear DR1
        rcases hcs with k1 | ⟨k1, k2⟩
        all_goals
          obtain ⟨z0, z1, z2⟩ := DRX.out.xo.three
          go_wp2_with fail
          refine (disk_any _ _ _ _ _ _ _ _ _ _).mono ?_
          rintro e w9 ⟨rfl, hb⟩
          have DRY := Lib.hid (DRX.out.on hb)
          clear hb DRX z0 z1 z2
          obtain ⟨r0, r1, r2⟩ := DRY.out.xr.three
          have f0 := DRY.out.xr.open_ 0
          have f1 := DRY.out.xr.open_ 1
          have f2 := DRY.out.xr.open_ 2
          go_wp2
          refine bodyPost_ret (v := .agg #[.slice U0 d.s0.length e0, .slice U1 d.s1.length e1, .slice Ul d.late.length el]) (by simp [results, Tryz.results43, go_sem, DRY.out.cells.1, DRY.out.cells.2.1, DRY.out.cells.2.2]) rfl ?_
          rw [HF.out]
          exact DRY.out.agg
    · have HF := Lib.hid (show rotM d side at_ k mask = d from by unfold rotM; rw [if_pos HK.out, if_neg (fun h => hth h.1)])
      go_wp2_with fail
      refine (has_are _ _ d.s0.length _ d.s1.length _ HN.out side at_ _ false (decide_eq_false hth)).mono ?_
      rintro e w3 ⟨rfl, hb⟩
      have DRX := Lib.hid (DR.out.on hb)
      clear hb DR x0 x1 x2 hth
      obtain ⟨z0, z1, z2⟩ := DRX.out.xo.three
      go_wp2_with fail
      refine (disk_any _ _ _ _ _ _ _ _ _ _).mono ?_
      rintro e w9 ⟨rfl, hb⟩
      have DRY := Lib.hid (DRX.out.on hb)
      clear hb DRX z0 z1 z2
      obtain ⟨r0, r1, r2⟩ := DRY.out.xr.three
      have f0 := DRY.out.xr.open_ 0
      have f1 := DRY.out.xr.open_ 1
      have f2 := DRY.out.xr.open_ 2
      go_wp2
      refine bodyPost_ret (v := .agg #[.slice U0 d.s0.length e0, .slice U1 d.s1.length e1, .slice Ul d.late.length el]) (by simp [results, Tryz.results43, go_sem, DRY.out.cells.1, DRY.out.cells.2.1, DRY.out.cells.2.2]) rfl ?_
      rw [HF.out]
      exact DRY.out.agg
  · have hok' := Lib.hid (decide_eq_false hok)
    have HF := Lib.hid (show rotM d side at_ k mask = noDisk from if_neg hok)
    clear hok
    go_enter Tryz.func43, Tryz.ntmps43
    go_wp2_with fail
    refine (ImOk_is _ _ _ d _ RD.out HS.out false hok'.out).mono ?_
    rintro e w1 ⟨rfl, hb⟩
    have XR1 := Lib.hid (XR.out.below hb (by omega))
    have B1 := Lib.hid (B0.out.trans (hb.mono (by omega)))
    clear hb RD XD XR B0 hsz
    obtain ⟨x0, x1, x2⟩ := XR1.out.three
    have f0 := XR1.out.open_ 0
    have f1 := XR1.out.open_ 1
    have f2 := XR1.out.open_ 2
    go_wp2
    have q1 := XR1.out.set 0 (.slice none 0 0)
    have q2 := q1.set 1 (.slice none 0 0)
    have q3 := q2.set 2 (.slice none 0 0)
    refine bodyPost_ret (v := .agg #[.slice none 0 0, .slice none 0 0, .slice none 0 0]) (by simp [results, Tryz.results43, go_sem, q1.cell 0 rfl, q2.cell 1 rfl, q3.cell 2 rfl]) rfl ?_
    rw [HF.out]
    exact ⟨_, _, _, rfl, noDisk_own _ _, ((B1.out.setCell (by simp) _).setCell (by simp) _).setCell (by simp) _⟩
end Go.Proofs.YtobjgdnmlibofaaGreat
