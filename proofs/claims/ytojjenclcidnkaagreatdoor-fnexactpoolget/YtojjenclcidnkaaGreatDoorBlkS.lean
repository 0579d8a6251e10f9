/-
  Whether a side has a block: BlkSide, spec's.
-/
import Derived.Test.YtojjenclcidnkaaGreatDoorBase
import Derived.Test.YtojjenclcidnkaaGreatDoorSumWalk
import Derived.Test.YtojjenclcidnkaaGreatDoorDiskA
import Derived.Deep.QuietTactic
import Derived.BigQuiet
import Derived.Deep.RegionHeld3
set_option maxRecDepth 100000
namespace Go.Proofs.YtojjenclcidnkaaGreatDoor
open Go.ChangeShapes Go.WideShapes Go.ChangeAt Go.RowKit Go.Proofs.Palim

theorem lastOf_mem {side at_ : Int} {ls : List LateM} {t : ByteArray} (h : lastOf side at_ ls = some t) : ∃ x ∈ ls, x.text = t := by
  induction ls with
  | nil => simp [lastOf] at h
  | cons x ls ih =>
    simp only [lastOf] at h
    cases hl : lastOf side at_ ls with
    | some u =>
      rw [hl] at h
      simp only [Option.some.injEq] at h
      subst h
      obtain ⟨y, hy, he⟩ := ih hl
      exact ⟨y, by simp [hy], he⟩
    | none =>
      rw [hl] at h
      simp only at h
      split at h
      · exact ⟨x, by simp, Option.some.inj h⟩
      · cases h
/-- What is read is short. -/
theorem readOut_size (d : DiskM) (side at_ : Int) : (readOut d side at_).size ≤ 420 := by
  unfold readOut
  split
  · rename_i h
    obtain ⟨_, _, _, _, h0, h1, hl⟩ := h.1
    unfold secM
    cases hx : lastOf side at_ d.late with
    | some t =>
      obtain ⟨x, hm, rfl⟩ := lastOf_mem hx
      exact (hl x hm).2.2.2.2
    | none =>
      simp only [Option.getD_none]
      rw [List.getD_eq_getElem?_getD]
      cases hy : (sideOf d side)[at_.toNat]? with
      | none => exact Nat.zero_le _
      | some s =>
        have hm := List.mem_of_getElem? hy
        simp only [Option.getD_some]
        unfold sideOf at hm
        split at hm
        · exact h0 s hm
        · exact h1 s hm
  · exact Nat.zero_le _

theorem below_drN {B : Nat} {a w : World} (h : Below B a w) (n : Nat) : Below B a (w.drewN n) := ⟨h.os, h.tape, h.output, h.size, h.block⟩
/-- The side has the block. -/
def HasB (d : DiskM) (p : PtrM) (side : Int) : Prop := CanRead d side p.at_ ∧ GoodM p ∧ sumOf (readOut d side p.at_) = p.sum
instance (d : DiskM) (p : PtrM) (side : Int) : Decidable (HasB d p side) := by unfold HasB; infer_instance
theorem good_iff (p : PtrM) : GoodM p ↔ PtrOkM p ∧ 0 < p.at_ := by
  unfold PtrOkM NullM GoodM
  omega

set_option maxHeartbeats 8000000 in
theorem specBlkSide_any (v0 v1 vl : Value) (d : DiskM) (p : PtrM) (side : Int) (w : World) (h : DiskR w v0 v1 vl d) (hs : DiskShort d) :
    Calls Tryz.prog 54 #[.agg #[v0, v1, vl], pv p, .int .i64 side] w fun e w' => e = .returned (.bool (decide (HasB d p side))) ∧ Below w.heap.size w w' := by
  obtain ⟨_, A0, c0, rfl, _⟩ := h.r0
  obtain ⟨_, A1, c1, rfl, _⟩ := h.r1
  obtain ⟨_, Al, cl, rfl, _⟩ := h.rl
  have HD := Lib.hid h
  have HS := Lib.hid hs
  clear h hs
  obtain ⟨at_, sum, birth⟩ := p
  obtain ⟨hA, hR, hsz, hB⟩ := box2 w #[.slice A0 d.s0.length c0, .slice A1 d.s1.length c1, .slice Al d.late.length cl] #[.int .i64 at_, .int .i64 sum, .int .i64 birth] 40 67
  have RD := Lib.hid (HD.out.below hB)
  have XP := Lib.hid hR
  have B0 := Lib.hid hB
  clear hA hR hB
  obtain ⟨tx, HTX⟩ : ∃ tx, Hid (readOut d side at_ = tx) := ⟨_, Lib.hid rfl⟩
  have htx : tx.size ≤ maxLen := by have := readOut_size d side at_; rw [HTX.out] at this; unfold maxLen; omega
  go_enter Tryz.func54, Tryz.ntmps54
  go_wp2_with fail
  refine (DiskRead_any _ _ _ d side at_ _ RD.out HS.out).mono ?_
  rintro e w1 ⟨rfl, hb⟩
  rw [HTX.out]
  have XP1 := Lib.hid (XP.out.below hb XP.out.lt)
  have B1 := Lib.hid (B0.out.trans (hb.mono B0.out.size))
  have hlt := (XP.out.below hb XP.out.lt).lt
  clear hb XP B0 RD
  obtain ⟨x0, x1, x2⟩ := XP1.out.three
  by_cases hr : CanRead d side at_
  · by_cases hok : PtrOkM ⟨at_, sum, birth⟩
    · by_cases hpos : 0 < at_
      · -- all is asked
        have HI := Lib.hid (show (sumOf tx == sum) = decide (HasB d ⟨at_, sum, birth⟩ side) from by
          rw [← HTX.out]
          by_cases hq : sumOf (readOut d side at_) = sum
          · rw [decide_eq_true (show HasB d ⟨at_, sum, birth⟩ side from ⟨hr, (good_iff _).2 ⟨hok, hpos⟩, hq⟩)]; simpa using hq
          · rw [decide_eq_false (fun h : HasB d ⟨at_, sum, birth⟩ side => hq h.2.2)]; simpa using hq)
        have hd := decide_eq_true hok
        rw [decide_eq_true hr]
        go_wp2_with fail
        go_region_held3 (fun w' => w'.cell? ⟨w.heap.size + 1, 0, none⟩ = some (.int .i64 at_) ∧ w'.cell? ⟨w.heap.size + 1, 1, none⟩ = some (.int .i64 sum) ∧ w'.cell? ⟨w.heap.size + 1, 2, none⟩ = some (.int .i64 birth))
          (first
            | go_keep
            | (go_split_ands
               refine ⟨?_, ?_, ?_⟩
               all_goals (rw [hb2.cell (by simp <;> omega)]; assumption)))
          (first
            | (go_at_call 53; ((with_reducible refine (specPtrOk_is ⟨at_, sum, birth⟩ _ true hd).mono ?_); rintro e w2 ⟨rfl, hb2⟩))
            | (go_at_call 97; ((with_reducible refine (specSumOf_any tx _ htx).mono ?_); rintro e w3 ⟨rfl, rfl⟩)))
        have B2 := Lib.hid (B1.out.drew.trans (hb2.mono (by have := B1.out.size; simpa using this)))
        clear hb2 x0 x1 x2 XP1 B1 hd
        rw [HI.out]
        go_wp2
        go_ret
        exact ⟨rfl, B2.out⟩
      · -- a null pointer
        have HN := Lib.hid (decide_eq_false (show ¬ HasB d ⟨at_, sum, birth⟩ side from fun h => hpos ((good_iff _).1 h.2.1).2))
        have hd := decide_eq_true hok
        obtain ⟨e1, e2, e3⟩ : at_ = 0 ∧ sum = 0 ∧ birth = 0 := by
          rcases hok with h | h
          · exact h
          · exact absurd h.1 (by simp only; omega)
        subst e1 e2 e3
        rw [decide_eq_true hr]
        clear hpos
        go_wp2_with fail
        refine wp_region_held_drew (S := fun w' => w'.cell? ⟨w.heap.size + 1, 0, none⟩ = some (.int .i64 0) ∧ w'.cell? ⟨w.heap.size + 1, 1, none⟩ = some (.int .i64 0) ∧ w'.cell? ⟨w.heap.size + 1, 2, none⟩ = some (.int .i64 0)) (by kernel_rfl) ⟨x0, x1, x2⟩ (fun hHeld => ?_)
        refine wpAnyH_take (i := 0) (v := ?_) rfl (by kernel_rfl) (by kernel_rfl) (by kernel_rfl) (fun _ _ _ h => h) (Or.inl ⟨by rfl, ?_⟩) (by assumption) ?_
        rotate_left
        · (intro w' hSw; (try dsimp only at hSw); go_simp; try with_reducible rfl)
        try simp only [Act.put]
        refine wpAnyH_take (i := 1) (v := ?_) rfl (by kernel_rfl) (by kernel_rfl) (by kernel_rfl) (fun _ _ _ h => h) (Or.inl ⟨by rfl, ?_⟩) (by assumption) ?_
        rotate_left
        · (intro w' hSw; (try dsimp only at hSw); go_simp; try with_reducible rfl)
        try simp only [Act.put]
        refine wpAnyH_take (i := 2) (v := ?_) rfl (by kernel_rfl) (by kernel_rfl) (by kernel_rfl) (fun _ _ _ h => h) (Or.inl ⟨by rfl, ?_⟩) (by assumption) ?_
        rotate_left
        · (intro w' hSw; (try dsimp only at hSw); go_simp; try with_reducible rfl)
        try simp only [Act.put]
        refine wpAnyH_ready (rs := [3]) (by kernel_rfl) (by simp) ?_
        refine AllReadyH.cons rfl (fun K hK => ?_) AllReadyH.nil
        go_simp
        go_at_call 53
        with_reducible refine (specPtrOk_is ⟨0, 0, 0⟩ _ true hd).mono ?_
        rintro e w2 ⟨rfl, hb2⟩
        go_wp2_with fail
        refine hK.out _ _ ?_ (fun hHeld2 => ?_)
        · first | go_keep | (go_split_ands; refine ⟨?_, ?_, ?_⟩; all_goals (rw [hb2.cell (by simp <;> omega)]; assumption))
        clear hK K
        try simp only [Act.put]
        refine wpAnyH_take (i := 4) (v := ?_) rfl (by kernel_rfl) (by kernel_rfl) (by kernel_rfl) (fun _ _ _ h => h) (Or.inl ⟨by rfl, ?_⟩) (by assumption) ?_
        rotate_left
        · (intro w' hSw; (try dsimp only at hSw); go_simp; try with_reducible rfl)
        try simp only [Act.put]
        refine wpAnyH_take (i := 5) (v := ?_) rfl (by kernel_rfl) (by kernel_rfl) (by kernel_rfl) (fun _ _ _ h => h) (Or.inl ⟨by rfl, ?_⟩) (by assumption) ?_
        rotate_left
        · (intro w' hSw; (try dsimp only at hSw); go_simp; try with_reducible rfl)
        try simp only [Act.put]
        refine wpAnyH_take (i := 6) (v := ?_) rfl (by kernel_rfl) (by kernel_rfl) (by kernel_rfl) (fun _ _ _ h => h) (Or.inl ⟨by rfl, ?_⟩) (by assumption) ?_
        rotate_left
        · (intro w' hSw; (try dsimp only at hSw); go_simp; try with_reducible rfl)
        try simp only [Act.put]
        refine wpAnyH_take (i := 7) (v := ?_) rfl (by kernel_rfl) (by kernel_rfl) (by kernel_rfl) (fun _ _ _ h => h) (Or.inl ⟨by rfl, ?_⟩) (by assumption) ?_
        rotate_left
        · (intro w' hSw; (try dsimp only at hSw); go_simp; try with_reducible rfl)
        try simp only [Act.put]
        refine wpAnyH_take (i := 8) (v := ?_) rfl (by kernel_rfl) (by kernel_rfl) (by kernel_rfl) (fun _ _ _ h => h) (Or.inl ⟨by rfl, ?_⟩) (by assumption) ?_
        rotate_left
        · (intro w' hSw; (try dsimp only at hSw); go_simp; try with_reducible rfl)
        try simp only [Act.put]
        refine wpAnyH_take (i := 9) (v := ?_) rfl (by kernel_rfl) (by kernel_rfl) (by kernel_rfl) (fun _ _ _ h => h) (Or.inl ⟨by rfl, ?_⟩) (by assumption) ?_
        rotate_left
        · (intro w' hSw; (try dsimp only at hSw); go_simp; try with_reducible rfl)
        try simp only [Act.put]
        refine wpAnyH_take (i := 10) (v := ?_) rfl (by kernel_rfl) (by kernel_rfl) (by kernel_rfl) (fun _ _ _ h => h) (Or.inl ⟨by rfl, ?_⟩) (by assumption) ?_
        rotate_left
        · (intro w' hSw; (try dsimp only at hSw); go_simp; try with_reducible rfl)
        try simp only [Act.put]
        refine wpAnyH_take (i := 11) (v := undef) rfl (by kernel_rfl) (by kernel_rfl) (by kernel_rfl) (fun _ _ _ h => h) (Or.inr ⟨by kernel_rfl, rfl⟩) (by assumption) ?_
        try simp only [Act.put]
        refine wpAnyH_take (i := 12) (v := undef) rfl (by kernel_rfl) (by kernel_rfl) (by kernel_rfl) (fun _ _ _ h => h) (Or.inr ⟨by kernel_rfl, rfl⟩) (by assumption) ?_
        try simp only [Act.put]
        refine wpAnyH_take (i := 13) (v := undef) rfl (by kernel_rfl) (by kernel_rfl) (by kernel_rfl) (fun _ _ _ h => h) (Or.inr ⟨by kernel_rfl, rfl⟩) (by assumption) ?_
        try simp only [Act.put]
        refine wpAnyH_take (i := 14) (v := undef) rfl (by kernel_rfl) (by kernel_rfl) (by kernel_rfl) (fun _ _ _ h => h) (Or.inr ⟨by kernel_rfl, rfl⟩) (by assumption) ?_
        try simp only [Act.put]
        refine wpAnyH_take (i := 15) (v := undef) rfl (by kernel_rfl) (by kernel_rfl) (by kernel_rfl) (fun _ _ _ h => h) (Or.inr ⟨by kernel_rfl, rfl⟩) (by assumption) ?_
        try simp only [Act.put]
        refine wpAnyH_take (i := 16) (v := ?_) rfl (by kernel_rfl) (by kernel_rfl) (by kernel_rfl) (fun _ _ _ h => h) (Or.inl ⟨by rfl, ?_⟩) (by assumption) ?_
        rotate_left
        · (intro w' hSw; (try dsimp only at hSw); go_simp; try with_reducible rfl)
        try simp only [Act.put]
        refine wpAnyH_take (i := 17) (v := ?_) rfl (by kernel_rfl) (by kernel_rfl) (by kernel_rfl) (fun _ _ _ h => h) (Or.inl ⟨by rfl, ?_⟩) (by assumption) ?_
        rotate_left
        · (intro w' hSw; (try dsimp only at hSw); go_simp; try with_reducible rfl)
        try simp only [Act.put]
        refine wpAnyH_done (by kernel_rfl) ?_ _
        go_simp
        clear hHeld hHeld2
        have B2 := Lib.hid (B1.out.drew.trans (hb2.mono (by have := B1.out.size; simpa using this)))
        clear hb2 x0 x1 x2 XP1 B1 hd
        go_wp2
        go_ret
        exact ⟨ret_bool HN.out.symm, B2.out⟩
    · have HN := Lib.hid (decide_eq_false (show ¬ HasB d ⟨at_, sum, birth⟩ side from fun h => hok ((good_iff _).1 h.2.1).1))
      have hd := decide_eq_false hok
      rw [decide_eq_true hr]
      clear hok
      go_wp2_with fail
      refine wp_region_held_drew (S := fun w' => w'.cell? ⟨w.heap.size + 1, 0, none⟩ = some (.int .i64 at_) ∧ w'.cell? ⟨w.heap.size + 1, 1, none⟩ = some (.int .i64 sum) ∧ w'.cell? ⟨w.heap.size + 1, 2, none⟩ = some (.int .i64 birth)) (by kernel_rfl) ⟨x0, x1, x2⟩ (fun hHeld => ?_)
      refine wpAnyH_take (i := 0) (v := ?_) rfl (by kernel_rfl) (by kernel_rfl) (by kernel_rfl) (fun _ _ _ h => h) (Or.inl ⟨by rfl, ?_⟩) (by assumption) ?_
      rotate_left
      · (intro w' hSw; (try dsimp only at hSw); go_simp; try with_reducible rfl)
      try simp only [Act.put]
      refine wpAnyH_take (i := 1) (v := ?_) rfl (by kernel_rfl) (by kernel_rfl) (by kernel_rfl) (fun _ _ _ h => h) (Or.inl ⟨by rfl, ?_⟩) (by assumption) ?_
      rotate_left
      · (intro w' hSw; (try dsimp only at hSw); go_simp; try with_reducible rfl)
      try simp only [Act.put]
      refine wpAnyH_take (i := 2) (v := ?_) rfl (by kernel_rfl) (by kernel_rfl) (by kernel_rfl) (fun _ _ _ h => h) (Or.inl ⟨by rfl, ?_⟩) (by assumption) ?_
      rotate_left
      · (intro w' hSw; (try dsimp only at hSw); go_simp; try with_reducible rfl)
      try simp only [Act.put]
      refine wpAnyH_ready (rs := [3]) (by kernel_rfl) (by simp) ?_
      refine AllReadyH.cons rfl (fun K hK => ?_) AllReadyH.nil
      go_simp
      go_at_call 53
      with_reducible refine (specPtrOk_is ⟨at_, sum, birth⟩ _ false hd).mono ?_
      rintro e w2 ⟨rfl, hb2⟩
      go_wp2_with fail
      refine hK.out _ _ ?_ (fun hHeld2 => ?_)
      · first | go_keep | (go_split_ands; refine ⟨?_, ?_, ?_⟩; all_goals (rw [hb2.cell (by simp <;> omega)]; assumption))
      clear hK K
      try simp only [Act.put]
      refine wpAnyH_take (i := 4) (v := ?_) rfl (by kernel_rfl) (by kernel_rfl) (by kernel_rfl) (fun _ _ _ h => h) (Or.inl ⟨by rfl, ?_⟩) (by assumption) ?_
      rotate_left
      · (intro w' hSw; (try dsimp only at hSw); go_simp; try with_reducible rfl)
      try simp only [Act.put]
      refine wpAnyH_take (i := 5) (v := ?_) rfl (by kernel_rfl) (by kernel_rfl) (by kernel_rfl) (fun _ _ _ h => h) (Or.inl ⟨by rfl, ?_⟩) (by assumption) ?_
      rotate_left
      · (intro w' hSw; (try dsimp only at hSw); go_simp; try with_reducible rfl)
      try simp only [Act.put]
      refine wpAnyH_take (i := 6) (v := undef) rfl (by kernel_rfl) (by kernel_rfl) (by kernel_rfl) (fun _ _ _ h => h) (Or.inr ⟨by kernel_rfl, rfl⟩) (by assumption) ?_
      try simp only [Act.put]
      refine wpAnyH_take (i := 7) (v := undef) rfl (by kernel_rfl) (by kernel_rfl) (by kernel_rfl) (fun _ _ _ h => h) (Or.inr ⟨by kernel_rfl, rfl⟩) (by assumption) ?_
      try simp only [Act.put]
      refine wpAnyH_take (i := 8) (v := undef) rfl (by kernel_rfl) (by kernel_rfl) (by kernel_rfl) (fun _ _ _ h => h) (Or.inr ⟨by kernel_rfl, rfl⟩) (by assumption) ?_
      try simp only [Act.put]
      refine wpAnyH_take (i := 9) (v := ?_) rfl (by kernel_rfl) (by kernel_rfl) (by kernel_rfl) (fun _ _ _ h => h) (Or.inl ⟨by rfl, ?_⟩) (by assumption) ?_
      rotate_left
      · (intro w' hSw; (try dsimp only at hSw); go_simp; try with_reducible rfl)
      try simp only [Act.put]
      refine wpAnyH_take (i := 10) (v := ?_) rfl (by kernel_rfl) (by kernel_rfl) (by kernel_rfl) (fun _ _ _ h => h) (Or.inl ⟨by rfl, ?_⟩) (by assumption) ?_
      rotate_left
      · (intro w' hSw; (try dsimp only at hSw); go_simp; try with_reducible rfl)
      try simp only [Act.put]
      refine wpAnyH_take (i := 11) (v := undef) rfl (by kernel_rfl) (by kernel_rfl) (by kernel_rfl) (fun _ _ _ h => h) (Or.inr ⟨by kernel_rfl, rfl⟩) (by assumption) ?_
      try simp only [Act.put]
      refine wpAnyH_take (i := 12) (v := undef) rfl (by kernel_rfl) (by kernel_rfl) (by kernel_rfl) (fun _ _ _ h => h) (Or.inr ⟨by kernel_rfl, rfl⟩) (by assumption) ?_
      try simp only [Act.put]
      refine wpAnyH_take (i := 13) (v := undef) rfl (by kernel_rfl) (by kernel_rfl) (by kernel_rfl) (fun _ _ _ h => h) (Or.inr ⟨by kernel_rfl, rfl⟩) (by assumption) ?_
      try simp only [Act.put]
      refine wpAnyH_take (i := 14) (v := undef) rfl (by kernel_rfl) (by kernel_rfl) (by kernel_rfl) (fun _ _ _ h => h) (Or.inr ⟨by kernel_rfl, rfl⟩) (by assumption) ?_
      try simp only [Act.put]
      refine wpAnyH_take (i := 15) (v := undef) rfl (by kernel_rfl) (by kernel_rfl) (by kernel_rfl) (fun _ _ _ h => h) (Or.inr ⟨by kernel_rfl, rfl⟩) (by assumption) ?_
      try simp only [Act.put]
      refine wpAnyH_take (i := 16) (v := ?_) rfl (by kernel_rfl) (by kernel_rfl) (by kernel_rfl) (fun _ _ _ h => h) (Or.inl ⟨by rfl, ?_⟩) (by assumption) ?_
      rotate_left
      · (intro w' hSw; (try dsimp only at hSw); go_simp; try with_reducible rfl)
      try simp only [Act.put]
      refine wpAnyH_take (i := 17) (v := ?_) rfl (by kernel_rfl) (by kernel_rfl) (by kernel_rfl) (fun _ _ _ h => h) (Or.inl ⟨by rfl, ?_⟩) (by assumption) ?_
      rotate_left
      · (intro w' hSw; (try dsimp only at hSw); go_simp; try with_reducible rfl)
      try simp only [Act.put]
      refine wpAnyH_done (by kernel_rfl) ?_ _
      go_simp
      clear hHeld hHeld2
      have B2 := Lib.hid (B1.out.drew.trans (hb2.mono (by have := B1.out.size; simpa using this)))
      clear hb2 x0 x1 x2 XP1 B1 hd
      go_wp2
      go_ret
      exact ⟨ret_bool HN.out.symm, B2.out⟩
  · have HN := Lib.hid (decide_eq_false (show ¬ HasB d ⟨at_, sum, birth⟩ side from fun h => hr h.1))
    rw [decide_eq_false hr]
    clear hr
    go_wp2_with fail
    go_quiet (fail)
    go_wp2
    go_ret
    exact ⟨ret_bool HN.out.symm, below_drN B1.out _⟩
end Go.Proofs.YtojjenclcidnkaaGreatDoor
