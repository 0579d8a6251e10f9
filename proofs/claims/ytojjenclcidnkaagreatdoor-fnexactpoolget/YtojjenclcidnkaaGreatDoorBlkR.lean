/-
  A block read: BlkSide and BlkRead of impl.
-/
import Derived.Test.YtojjenclcidnkaaGreatDoorBlkOn
set_option maxRecDepth 100000
namespace Go.Proofs.YtojjenclcidnkaaGreatDoor
open Go.ChangeShapes Go.WideShapes Go.ChangeAt Go.RowKit Go.Proofs.Palim

theorem onErr_hit {d : DiskM} {p : PtrM} {side : Int} (a0 a1 : Addr) (h : HasB d p side) : onErr d p side a0 a1 = .nilIface := by
  unfold onErr
  rw [if_neg (fun hn => null_not d p side hn h), if_pos h]
theorem onErr_miss {d : DiskM} {p : PtrM} {side : Int} (a0 a1 : Addr) (h : ¬ HasB d p side) : onErr d p side a0 a1 = ev (if NullM p then a0 else a1) := by
  unfold onErr
  rw [if_neg h]
  split <;> rfl
theorem onText_hit {d : DiskM} {p : PtrM} {side : Int} (h : HasB d p side) : onText d p side = readOut d side p.at_ := if_pos h
theorem onText_miss {d : DiskM} {p : PtrM} {side : Int} (h : ¬ HasB d p side) : onText d p side = ⟨#[]⟩ := if_neg h

/-- What the first side that has the block gives. -/
def firstT (d : DiskM) (p : PtrM) : ByteArray := if HasB d p 0 then readOut d 0 p.at_ else onText d p 1
def firstE (d : DiskM) (p : PtrM) (a0 a1 : Addr) : Value := if HasB d p 0 then .nilIface else onErr d p 1 a0 a1

set_option maxHeartbeats 1000000 in
theorem blkFirst_any (v0 v1 vl : Value) (d : DiskM) (p : PtrM) (a0 a1 : Addr) (w : World) (h : DiskR w v0 v1 vl d) (hs : DiskShort d) (he : Errs w a0 a1) :
    Calls Tryz.prog 66 #[.agg #[v0, v1, vl], pv p] w fun e w' => e = .returned (.tuple #[.string (firstT d p), firstE d p a0 a1]) ∧ Below w.heap.size w w' := by
  have HS := Lib.hid hs
  obtain ⟨hA, hR, hsz, hB⟩ := box2 w #[v0, v1, vl] #[.int .i64 p.at_, .int .i64 p.sum, .int .i64 p.birth] 40 67
  have RD := Lib.hid (h.below hB)
  have XD := Lib.hid hA
  have XP := Lib.hid hR
  have B0 := Lib.hid hB
  have HE0 := Lib.hid (he.below hB)
  clear hA hR hB h hs he
  go_enter Tryz.func66, Tryz.ntmps66
  go_wp2_with fail
  refine wp_loop_rounds 3 ?_
  rw [rounds_succ]
  go_wp2_with fail
  refine (blkOn_any v0 v1 vl d p 0 a0 a1 _ RD.out HS.out HE0.out).mono ?_
  rintro e w1 ⟨rfl, hb⟩
  have RD1 := Lib.hid (RD.out.below hb)
  have XD1 := Lib.hid (XD.out.below hb XD.out.lt)
  have XP1 := Lib.hid (XP.out.below hb XP.out.lt)
  have B1 := Lib.hid (B0.out.trans (hb.mono B0.out.size))
  have HE1 := Lib.hid (HE0.out.below hb)
  clear hb RD XD XP B0 HE0
  by_cases hq : HasB d p 0
  · rw [onErr_hit a0 a1 hq, onText_hit hq]
    have HT := Lib.hid (show firstT d p = readOut d 0 p.at_ from if_pos hq)
    have HV := Lib.hid (show firstE d p a0 a1 = .nilIface from if_pos hq)
    clear hq
    generalize readOut d 0 p.at_ = tx at HT ⊢
    go_wp2
    go_ret2
    exact ⟨ret_on HT.out.symm HV.out.symm, B1.out⟩
  · rw [onErr_miss a0 a1 hq, onText_miss hq]
    have HT := Lib.hid (show firstT d p = onText d p 1 from if_neg hq)
    have HV := Lib.hid (show firstE d p a0 a1 = onErr d p 1 a0 a1 from if_neg hq)
    clear hq
    generalize (if NullM p then a0 else a1) = a
    obtain ⟨x0, x1, x2⟩ := XD1.out.three
    obtain ⟨y0, y1, y2⟩ := XP1.out.three
    go_wp2_with fail
    rw [rounds_succ]
    go_wp2_with fail
    refine (blkOn_any v0 v1 vl d p 1 a0 a1 _ RD1.out HS.out HE1.out).mono ?_
    rintro e w2 ⟨rfl, hb⟩
    have B2 := Lib.hid (B1.out.trans (hb.mono B1.out.size))
    clear hb RD1 XD1 XP1 B1 HE1 x0 x1 x2 y0 y1 y2
    by_cases hr : HasB d p 1
    · rw [onErr_hit a0 a1 hr] at HV ⊢
      clear hr
      generalize onText d p 1 = tx at HT ⊢
      go_wp2
      go_ret2
      exact ⟨ret_on HT.out.symm HV.out.symm, B2.out⟩
    · rw [onErr_miss a0 a1 hr] at HV ⊢
      clear hr
      generalize (if NullM p then a0 else a1) = b at HV ⊢
      generalize onText d p 1 = tx at HT ⊢
      go_wp2_with fail
      rw [rounds_succ]
      go_wp2
      go_ret2
      exact ⟨ret_on HT.out.symm HV.out.symm, B2.out⟩

/-- What is read of a block, and the code. -/
def blkText (d : DiskM) (p : PtrM) : ByteArray := if HasB d p 0 then readOut d 0 p.at_ else if HasB d p 1 then readOut d 1 p.at_ else ⟨#[]⟩
def blkCode (d : DiskM) (p : PtrM) : Int := if NullM p then 1 else if HasB d p 0 ∨ HasB d p 1 then 0 else 2
theorem ret_ti {a b : ByteArray} {x y : Int} (h : a = b) (h2 : x = y) : Ending.returned (.tuple #[.string a, .int .i64 x]) = Ending.returned (.tuple #[.string b, .int .i64 y]) := by rw [h, h2]

set_option maxHeartbeats 1000000 in
theorem implBlkRead_any (v0 v1 vl : Value) (d : DiskM) (p : PtrM) (a0 a1 : Addr) (w : World) (h : DiskR w v0 v1 vl d) (hs : DiskShort d) (he : Errs w a0 a1) :
    Calls Tryz.prog 25 #[.agg #[v0, v1, vl], pv p] w fun e w' => e = .returned (.tuple #[.string (blkText d p), .int .i64 (blkCode d p)]) ∧ Below w.heap.size w w' := by
  have HS := Lib.hid hs
  obtain ⟨hA, hR, hsz, hB⟩ := box2 w #[v0, v1, vl] #[.int .i64 p.at_, .int .i64 p.sum, .int .i64 p.birth] 40 67
  have RD := Lib.hid (h.below hB)
  have B0 := Lib.hid hB
  have HE0 := Lib.hid (he.below hB)
  clear hA hR hB h hs he
  go_enter Tryz.func25, Tryz.ntmps25
  go_wp2_with fail
  refine (blkFirst_any v0 v1 vl d p a0 a1 _ RD.out HS.out HE0.out).mono ?_
  rintro e w1 ⟨rfl, hb⟩
  have B1 := Lib.hid (B0.out.trans (hb.mono B0.out.size))
  have HE1 := Lib.hid (HE0.out.below hb)
  clear hb RD B0 HE0
  have g0 := HE1.out.g0
  have g1 := HE1.out.g1
  by_cases hq : HasB d p 0 ∨ HasB d p 1
  · have hnn : ¬ NullM p := fun hn => hq.elim (null_not d p 0 hn) (null_not d p 1 hn)
    have HV : firstE d p a0 a1 = .nilIface := by
      unfold firstE
      split
      · rfl
      · rename_i h0; exact onErr_hit a0 a1 (hq.resolve_left h0)
    have HT := Lib.hid (show firstT d p = blkText d p from by
      unfold firstT blkText
      split
      · rfl
      · rename_i h0
        rw [onText_hit (hq.resolve_left h0), if_pos (hq.resolve_left h0)])
    have HC := Lib.hid (show blkCode d p = 0 from by unfold blkCode; rw [if_neg hnn, if_pos hq])
    rw [HV]
    clear HV hq hnn
    generalize firstT d p = tx at HT ⊢
    go_wp2_with (go_at_call 67; refine (is_nil _ _).mono ?_; rintro e w' ⟨rfl, rfl⟩)
    go_ret2
    exact ⟨ret_ti HT.out HC.out.symm, B1.out⟩
  · have HV : firstE d p a0 a1 = ev (if NullM p then a0 else a1) := by
      unfold firstE
      rw [if_neg (fun h => hq (Or.inl h))]
      exact onErr_miss a0 a1 (fun h => hq (Or.inr h))
    have HT := Lib.hid (show blkText d p = ⟨#[]⟩ from by unfold blkText; rw [if_neg (fun h => hq (Or.inl h)), if_neg (fun h => hq (Or.inr h))])
    rw [HV]
    clear HV
    generalize firstT d p = tx
    by_cases hn : NullM p
    · have HC := Lib.hid (show blkCode d p = 1 from if_pos hn)
      rw [if_pos hn]
      clear hn hq
      go_wp2_with fail
      refine (is_same a0 _).mono ?_
      rintro e w' ⟨rfl, rfl⟩
      go_wp2
      go_ret2
      exact ⟨ret_ti HT.out.symm HC.out.symm, B1.out⟩
    · have HC := Lib.hid (show blkCode d p = 2 from by unfold blkCode; rw [if_neg hn, if_neg hq])
      rw [if_neg hn]
      clear hn hq
      obtain ⟨c0, t0, k0⟩ := HE1.out.b0
      obtain ⟨c1, t1, k1⟩ := HE1.out.b1
      have hne := HE1.out.ne
      go_wp2_with fail
      refine (is_other a1 a0 c1 c0 t1 t0 _ (fun e => hne e.symm) k1 k0).mono ?_
      rintro e w' ⟨rfl, rfl⟩
      go_wp2_with fail
      refine (is_same a1 _).mono ?_
      rintro e w' ⟨rfl, rfl⟩
      go_wp2
      go_ret2
      exact ⟨ret_ti HT.out.symm HC.out.symm, B1.out⟩
end Go.Proofs.YtojjenclcidnkaaGreatDoor
