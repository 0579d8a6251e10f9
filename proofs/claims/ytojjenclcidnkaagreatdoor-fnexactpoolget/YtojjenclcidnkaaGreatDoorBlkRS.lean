/-
  A block read: BlkRead of spec.
-/
import Derived.Test.YtojjenclcidnkaaGreatDoorBlkR
import Derived.Test.YtojjenclcidnkaaGreatDoorDiskA
set_option maxRecDepth 100000
namespace Go.Proofs.YtojjenclcidnkaaGreatDoor
open Go.ChangeShapes Go.WideShapes Go.ChangeAt Go.RowKit Go.Proofs.Palim

theorem specSide_is (v0 v1 vl : Value) (d : DiskM) (p : PtrM) (side : Int) (w : World) (h : DiskR w v0 v1 vl d) (hs : DiskShort d) (r : Bool) (hr : decide (HasB d p side) = r) :
    Calls Tryz.prog 54 #[.agg #[v0, v1, vl], pv p, .int .i64 side] w fun e w' => e = .returned (.bool r) ∧ Below w.heap.size w w' := hr ▸ specBlkSide_any v0 v1 vl d p side w h hs
/-- l2Read of a block that the side has. -/
theorem l2Read_has (v0 v1 vl : Value) (d : DiskM) (p : PtrM) (side : Int) (w : World) (h : DiskR w v0 v1 vl d) (hs : DiskShort d) (hb : HasB d p side) :
    Calls Tryz.prog 55 #[.agg #[v0, v1, vl], .int .i64 side, .int .i64 p.at_] w fun e w' => e = .returned (.string (readOut d side p.at_)) ∧ Below w.heap.size w w' := by
  have ht := hb.1.2
  unfold There at ht
  have e : readOut d side p.at_ = secM d side p.at_ := if_pos hb.1
  rw [e]
  exact l2Read_any v0 v1 vl d side p.at_ w h hs (by omega) (by omega) (by omega) hb.1.1.2.2.1

set_option maxHeartbeats 1000000 in
theorem specBlkRead_any (v0 v1 vl : Value) (d : DiskM) (p : PtrM) (w : World) (h : DiskR w v0 v1 vl d) (hs : DiskShort d) :
    Calls Tryz.prog 20 #[.agg #[v0, v1, vl], pv p] w fun e w' => e = .returned (.tuple #[.string (blkText d p), .int .i64 (blkCode d p)]) ∧ Below w.heap.size w w' := by
  have HS := Lib.hid hs
  obtain ⟨hA, hR, hsz, hB⟩ := box2 w #[v0, v1, vl] #[.int .i64 p.at_, .int .i64 p.sum, .int .i64 p.birth] 40 67
  have RD := Lib.hid (h.below hB)
  have XD := Lib.hid hA
  have XP := Lib.hid hR
  have B0 := Lib.hid hB
  clear hA hR hB h hs
  by_cases hn : NullM p
  · have HT := Lib.hid (show blkText d p = ⟨#[]⟩ from by unfold blkText; rw [if_neg (null_not _ _ _ hn), if_neg (null_not _ _ _ hn)])
    have HC := Lib.hid (show blkCode d p = 1 from if_pos hn)
    have HAT := Lib.hid hn.1
    have hd := decide_eq_true (show PtrOkM p from Or.inl hn)
    clear hn
    go_enter Tryz.func20, Tryz.ntmps20
    go_wp2_with fail
    refine (specPtrOk_is p _ true hd).mono ?_
    rintro e w1 ⟨rfl, hb⟩
    have XP1 := Lib.hid (XP.out.below hb XP.out.lt)
    have B1 := Lib.hid (B0.out.trans (hb.mono B0.out.size))
    clear hb
    obtain ⟨y0, y1, y2⟩ := XP1.out.three
    rw [HAT.out] at y0
    go_wp2
    go_ret2
    exact ⟨ret_ti HT.out.symm HC.out.symm, B1.out⟩
  have HN := Lib.hid hn
  -- the pointer is not null
  obtain ⟨ok, HOK⟩ : ∃ ok, Hid (decide (PtrOkM p) = ok) := ⟨_, Lib.hid rfl⟩
  have hat : ok = true → ¬ p.at_ = 0 := fun h e => by
    rw [← HOK.out] at h
    have h2 : PtrOkM p := of_decide_eq_true h
    rcases h2 with h2 | h2
    · exact hn h2
    · have := h2.1; omega
  clear hn
  go_enter Tryz.func20, Tryz.ntmps20
  go_wp2_with fail
  refine (specPtrOk_is p _ ok HOK.out).mono ?_
  rintro e w1 ⟨rfl, hb⟩
  have RD1 := Lib.hid (RD.out.below hb)
  have XD1 := Lib.hid (XD.out.below hb XD.out.lt)
  have XP1 := Lib.hid (XP.out.below hb XP.out.lt)
  have B1 := Lib.hid (B0.out.trans (hb.mono B0.out.size))
  clear hb RD XD XP B0
  obtain ⟨x0, x1, x2⟩ := XD1.out.three
  obtain ⟨y0, y1, y2⟩ := XP1.out.three
  cases ok
  all_goals
    first
      | (have hat2 := hat rfl; clear hat)
      | clear hat
    go_wp2_with fail
    refine wp_loop_rounds 3 ?_
    rw [rounds_succ]
    go_wp2_with fail
    by_cases hq : HasB d p 0
    · have HT := Lib.hid (show blkText d p = readOut d 0 p.at_ from if_pos hq)
      have HC := Lib.hid (show blkCode d p = 0 from by unfold blkCode; rw [if_neg HN.out, if_pos (Or.inl hq)])
      have HQ := Lib.hid hq
      refine (specSide_is v0 v1 vl d p 0 _ RD1.out HS.out true (decide_eq_true hq)).mono ?_
      rintro e w2 ⟨rfl, hb⟩
      have RD2 := Lib.hid (RD1.out.below hb)
      have XD2 := Lib.hid (XD1.out.below hb XD1.out.lt)
      have XP2 := Lib.hid (XP1.out.below hb XP1.out.lt)
      have B2 := Lib.hid (B1.out.trans (hb.mono B1.out.size))
      clear hb RD1 XD1 XP1 B1 x0 x1 x2 y0 y1 y2 hq
      obtain ⟨x0, x1, x2⟩ := XD2.out.three
      obtain ⟨y0, y1, y2⟩ := XP2.out.three
      go_wp2_with fail
      refine (l2Read_has v0 v1 vl d p 0 _ RD2.out HS.out HQ.out).mono ?_
      rintro e w3 ⟨rfl, hb⟩
      have B3 := Lib.hid (B2.out.trans (hb.mono B2.out.size))
      clear hb
      generalize readOut d 0 p.at_ = tx at HT ⊢
      go_wp2
      go_ret2
      exact ⟨ret_ti HT.out.symm HC.out.symm, B3.out⟩
    · refine (specSide_is v0 v1 vl d p 0 _ RD1.out HS.out false (decide_eq_false hq)).mono ?_
      rintro e w2 ⟨rfl, hb⟩
      have RD2 := Lib.hid (RD1.out.below hb)
      have XD2 := Lib.hid (XD1.out.below hb XD1.out.lt)
      have XP2 := Lib.hid (XP1.out.below hb XP1.out.lt)
      have B2 := Lib.hid (B1.out.trans (hb.mono B1.out.size))
      have HQ0 := Lib.hid hq
      clear hb RD1 XD1 XP1 B1 x0 x1 x2 y0 y1 y2 hq
      obtain ⟨x0, x1, x2⟩ := XD2.out.three
      obtain ⟨y0, y1, y2⟩ := XP2.out.three
      go_wp2_with fail
      rw [rounds_succ]
      go_wp2_with fail
      by_cases hq : HasB d p 1
      · have HT := Lib.hid (show blkText d p = readOut d 1 p.at_ from by unfold blkText; rw [if_neg HQ0.out, if_pos hq])
        have HC := Lib.hid (show blkCode d p = 0 from by unfold blkCode; rw [if_neg HN.out, if_pos (Or.inr hq)])
        have HQ := Lib.hid hq
        refine (specSide_is v0 v1 vl d p 1 _ RD2.out HS.out true (decide_eq_true hq)).mono ?_
        rintro e w3 ⟨rfl, hb⟩
        have RD3 := Lib.hid (RD2.out.below hb)
        have XD3 := Lib.hid (XD2.out.below hb XD2.out.lt)
        have XP3 := Lib.hid (XP2.out.below hb XP2.out.lt)
        have B3 := Lib.hid (B2.out.trans (hb.mono B2.out.size))
        clear hb RD2 XD2 XP2 B2 x0 x1 x2 y0 y1 y2 hq
        obtain ⟨x0, x1, x2⟩ := XD3.out.three
        obtain ⟨y0, y1, y2⟩ := XP3.out.three
        go_wp2_with fail
        refine (l2Read_has v0 v1 vl d p 1 _ RD3.out HS.out HQ.out).mono ?_
        rintro e w4 ⟨rfl, hb⟩
        have B4 := Lib.hid (B3.out.trans (hb.mono B3.out.size))
        clear hb
        generalize readOut d 1 p.at_ = tx at HT ⊢
        go_wp2
        go_ret2
        exact ⟨ret_ti HT.out.symm HC.out.symm, B4.out⟩
      · have HT := Lib.hid (show blkText d p = ⟨#[]⟩ from by unfold blkText; rw [if_neg HQ0.out, if_neg hq])
        have HC := Lib.hid (show blkCode d p = 2 from by unfold blkCode; rw [if_neg HN.out, if_neg (fun h => h.elim HQ0.out hq)])
        refine (specSide_is v0 v1 vl d p 1 _ RD2.out HS.out false (decide_eq_false hq)).mono ?_
        rintro e w3 ⟨rfl, hb⟩
        have B3 := Lib.hid (B2.out.trans (hb.mono B2.out.size))
        clear hb RD2 XD2 XP2 B2 x0 x1 x2 y0 y1 y2 hq
        go_wp2_with fail
        rw [rounds_succ]
        go_wp2
        go_ret2
        exact ⟨ret_ti HT.out.symm HC.out.symm, B3.out⟩
end Go.Proofs.YtojjenclcidnkaaGreatDoor
