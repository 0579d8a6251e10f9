/-
  The block as a side has it: impl's blkOn, BlkSide.
-/
import Derived.Test.YtojjenclcidnkaaGreatDoorBlkS
import Derived.Test.YtojjenclcidnkaaGreatDoorIs
import Derived.Test.YtojjenclcidnkaaGreatDoorImDiskRead
set_option maxRecDepth 100000
namespace Go.Proofs.YtojjenclcidnkaaGreatDoor
open Go.ChangeShapes Go.WideShapes Go.ChangeAt Go.RowKit Go.Proofs.Palim

/-- The text of a block that a side has. -/
def onText (d : DiskM) (p : PtrM) (side : Int) : ByteArray := if HasB d p side then readOut d side p.at_ else ⟨#[]⟩
/-- The error of a block on a side. -/
def onErr (d : DiskM) (p : PtrM) (side : Int) (a0 a1 : Addr) : Value := if NullM p then ev a0 else if HasB d p side then .nilIface else ev a1
theorem ret_on {a b : ByteArray} {x y : Value} (h : a = b) (h2 : x = y) : Ending.returned (.tuple #[.string a, x]) = Ending.returned (.tuple #[.string b, y]) := by rw [h, h2]
theorem null_not (d : DiskM) (p : PtrM) (side : Int) (h : NullM p) : ¬ HasB d p side := fun k => by have := k.2.1.1; have := h.1; omega

theorem neqNull (p : PtrM) (h : ¬ NullM p) (w : World) : (binOp .eql 67 (.agg #[.int .i64 p.at_, .int .i64 p.sum, .int .i64 p.birth]) (.agg #[.int .i64 0, .int .i64 0, .int .i64 0])).run Tryz.prog w = .ok (.bool false) w := by
  obtain ⟨a, s, b⟩ := p
  have h2 : ¬ (a = 0 ∧ s = 0 ∧ b = 0) := h
  rw [run_eql_struct]
  by_cases h3 : a = 0
  · by_cases h4 : s = 0
    · have h5 : ¬ b = 0 := fun e => h2 ⟨h3, h4, e⟩
      go_simp
    · go_simp
  · go_simp

set_option maxHeartbeats 8000000 in
theorem blkOn_any (v0 v1 vl : Value) (d : DiskM) (p : PtrM) (side : Int) (a0 a1 : Addr) (w : World) (h : DiskR w v0 v1 vl d) (hs : DiskShort d) (he : Errs w a0 a1) :
    Calls Tryz.prog 106 #[.agg #[v0, v1, vl], pv p, .int .i64 side] w fun e w' => e = .returned (.tuple #[.string (onText d p side), onErr d p side a0 a1]) ∧ Below w.heap.size w w' := by
  have hnot : ∀ (x : Bool) (w : World), (Op.unary .not (.bool x)).run Tryz.prog w = .ok (.bool (!x)) w := fun _ _ => rfl
  obtain ⟨_, A0, c0, rfl, _⟩ := h.r0
  obtain ⟨_, A1, c1, rfl, _⟩ := h.r1
  obtain ⟨_, Al, cl, rfl, _⟩ := h.rl
  have HD := Lib.hid h
  have HS := Lib.hid hs
  have HE := Lib.hid he
  clear h hs he
  obtain ⟨at_, sum, birth⟩ := p
  obtain ⟨hA, hR, hsz, hB⟩ := box2 w #[.slice A0 d.s0.length c0, .slice A1 d.s1.length c1, .slice Al d.late.length cl] #[.int .i64 at_, .int .i64 sum, .int .i64 birth] 40 67
  have RD := Lib.hid (HD.out.below hB)
  have XP := Lib.hid hR
  have B0 := Lib.hid hB
  have HE0 := Lib.hid (HE.out.below hB)
  clear hA hR hB HE
  by_cases hn : NullM ⟨at_, sum, birth⟩
  · have HT := Lib.hid (show onText d ⟨at_, sum, birth⟩ side = ⟨#[]⟩ from if_neg (null_not _ _ _ hn))
    have HV := Lib.hid (show onErr d ⟨at_, sum, birth⟩ side a0 a1 = ev a0 from if_pos hn)
    obtain ⟨e1, e2, e3⟩ : at_ = 0 ∧ sum = 0 ∧ birth = 0 := hn
    subst e1 e2 e3
    have g0 := HE0.out.g0
    go_enter Tryz.func106, Tryz.ntmps106
    go_wp2_with fail
    go_quiet (fail)
    go_wp2
    go_ret2
    exact ⟨ret_on HT.out.symm HV.out.symm, below_drN B0.out _⟩
  obtain ⟨tx, HTX⟩ : ∃ tx, Hid (readOut d side at_ = tx) := ⟨_, Lib.hid rfl⟩
  have htx : tx.size ≤ maxLen := by have := readOut_size d side at_; rw [HTX.out] at this; unfold maxLen; omega
  have hcmp := neqNull ⟨at_, sum, birth⟩ hn
  simp only at hcmp
  have HN := Lib.hid hn
  clear hn
  go_enter Tryz.func106, Tryz.ntmps106
  go_wp2_with fail
  clear hcmp
  refine (ImplDiskRead_any d side at_ _ _ _ _ RD.out HS.out).mono ?_
  rintro e w1 ⟨rfl, hb⟩
  rw [HTX.out]
  have XP1 := Lib.hid (XP.out.below hb XP.out.lt)
  have B1 := Lib.hid (B0.out.trans (hb.mono B0.out.size))
  have HE1 := Lib.hid (HE0.out.below hb)
  have hlt := (XP.out.below hb XP.out.lt).lt
  clear hb XP B0 RD HE0
  obtain ⟨x0, x1, x2⟩ := XP1.out.three
  by_cases hok : PtrOkM ⟨at_, sum, birth⟩
  · have HG := Lib.hid (show GoodM ⟨at_, sum, birth⟩ from hok.resolve_left HN.out)
    have hd := decide_eq_true hok
    clear hok
    by_cases hr : CanRead d side at_
    · rw [decide_eq_true hr]
      go_wp2_with fail
      go_region_held3 (fun w' => w'.cell? ⟨w.heap.size + 1, 0, none⟩ = some (.int .i64 at_) ∧ w'.cell? ⟨w.heap.size + 1, 1, none⟩ = some (.int .i64 sum) ∧ w'.cell? ⟨w.heap.size + 1, 2, none⟩ = some (.int .i64 birth))
        (first
          | go_keep
          | (go_split_ands
             refine ⟨?_, ?_, ?_⟩
             all_goals (rw [hb2.cell (by simp <;> omega)]; assumption)))
        (first
          | (go_at_call 139; ((with_reducible refine (implPtrOk_is ⟨at_, sum, birth⟩ _ true hd).mono ?_); rintro e w2 ⟨rfl, hb2⟩))
          | (go_at_call 140; ((with_reducible refine (implSumOf_any tx _ htx).mono ?_); rintro e w3 ⟨rfl, rfl⟩)))
      have B2 := Lib.hid (B1.out.drew.trans (hb2.mono (by have := B1.out.size; simpa using this)))
      have HE2 := Lib.hid (HE1.out.drew.below hb2)
      clear hb2 x0 x1 x2 XP1 B1 hd HE1
      by_cases hq : sumOf tx = sum
      · have HB := Lib.hid (show HasB d ⟨at_, sum, birth⟩ side from ⟨hr, HG.out, by simp only; rw [HTX.out]; exact hq⟩)
        have HT := Lib.hid (show onText d ⟨at_, sum, birth⟩ side = tx from by unfold onText; rw [if_pos HB.out]; exact HTX.out)
        have HV := Lib.hid (show onErr d ⟨at_, sum, birth⟩ side a0 a1 = .nilIface from by unfold onErr; rw [if_neg HN.out, if_pos HB.out])
        go_wp2
        go_ret2
        exact ⟨ret_on HT.out.symm HV.out.symm, B2.out⟩
      · have HB := Lib.hid (show ¬ HasB d ⟨at_, sum, birth⟩ side from fun h => hq (by have := h.2.2; simp only at this; rwa [HTX.out] at this))
        have HT := Lib.hid (show onText d ⟨at_, sum, birth⟩ side = ⟨#[]⟩ from if_neg HB.out)
        have HV := Lib.hid (show onErr d ⟨at_, sum, birth⟩ side a0 a1 = ev a1 from by unfold onErr; rw [if_neg HN.out, if_neg HB.out])
        have g1 := HE2.out.g1
        go_wp2_with fail
        go_quiet (fail)
        go_wp2
        go_ret2
        exact ⟨ret_on HT.out.symm HV.out.symm, below_drN B2.out _⟩
    · have HB := Lib.hid (show ¬ HasB d ⟨at_, sum, birth⟩ side from fun h => hr h.1)
      have HT := Lib.hid (show onText d ⟨at_, sum, birth⟩ side = ⟨#[]⟩ from if_neg HB.out)
      have HV := Lib.hid (show onErr d ⟨at_, sum, birth⟩ side a0 a1 = ev a1 from by unfold onErr; rw [if_neg HN.out, if_neg HB.out])
      rw [decide_eq_false hr]
      clear hr
      go_wp2_with fail
      refine wp_region_held_drew (S := fun w' => w'.cell? ⟨w.heap.size + 1, 0, none⟩ = some (.int .i64 at_) ∧ w'.cell? ⟨w.heap.size + 1, 1, none⟩ = some (.int .i64 sum) ∧ w'.cell? ⟨w.heap.size + 1, 2, none⟩ = some (.int .i64 birth)) (by kernel_rfl) ⟨x0, x1, x2⟩ (fun hHeld => ?_)
      refine wpAnyH_take (i := 0) (v := ?_) rfl (by kernel_rfl) (by kernel_rfl) (by kernel_rfl) (fun _ _ _ h => h) (Or.inl ⟨by rfl, ?_⟩) (by assumption) ?_
      rotate_left
      · (intro w' hSw; (try dsimp only at hSw); go_simp; try with_reducible rfl)
      try simp only [Act.put]
      refine wpAnyH_ready (rs := [1]) (by kernel_rfl) (by simp) ?_
      refine AllReadyH.cons rfl (fun K hK => ?_) AllReadyH.nil
      go_simp
      go_at_call 139
      with_reducible refine (implPtrOk_is ⟨at_, sum, birth⟩ _ true hd).mono ?_
      rintro e w2 ⟨rfl, hb2⟩
      go_wp2_with fail
      refine hK.out _ _ ?_ (fun hHeld2 => ?_)
      · first | go_keep | (go_split_ands; refine ⟨?_, ?_, ?_⟩; all_goals (rw [hb2.cell (by simp <;> omega)]; assumption))
      clear hK K
      try simp only [Act.put]
      refine wpAnyH_take (i := 2) (v := ?_) rfl (by kernel_rfl) (by kernel_rfl) (by kernel_rfl) (fun _ _ _ h => h) (Or.inl ⟨by rfl, ?_⟩) (by assumption) ?_
      rotate_left
      · (intro w' hSw; (try dsimp only at hSw); go_simp; try with_reducible rfl)
      try simp only [Act.put]
      refine wpAnyH_take (i := 3) (v := ?_) rfl (by kernel_rfl) (by kernel_rfl) (by kernel_rfl) (fun _ _ _ h => h) (Or.inl ⟨by rfl, ?_⟩) (by assumption) ?_
      rotate_left
      · (intro w' hSw; (try dsimp only at hSw); go_simp; try with_reducible rfl)
      try simp only [Act.put]
      refine wpAnyH_take (i := 4) (v := ?_) rfl (by kernel_rfl) (by kernel_rfl) (by kernel_rfl) (fun _ _ _ h => h) (Or.inl ⟨by rfl, ?_⟩) (by assumption) ?_
      rotate_left
      · (intro w' hSw; (try dsimp only at hSw); go_simp; try with_reducible rfl)
      try simp only [Act.put]
      refine wpAnyH_take (i := 5) (v := ?_) rfl (by kernel_rfl) (by kernel_rfl) (by kernel_rfl) (fun _ _ _ h => h) (Or.inl ⟨by rfl, ?_⟩) (by assumption) ?_
      rotate_left
      · (intro w' hSw; (try dsimp only at hSw); go_simp; try with_reducible rfl)
      try simp only [Act.put]
      refine wpAnyH_take (i := 6) (v := ?_) rfl (by kernel_rfl) (by kernel_rfl) (by kernel_rfl) (fun _ _ _ h => h) (Or.inl ⟨by rfl, ?_⟩) (by assumption) ?_
      rotate_left
      · (intro w' hSw; (try dsimp only at hSw); go_simp; try with_reducible rfl)
      try simp only [Act.put]
      refine wpAnyH_take (i := 7) (v := ?_) rfl (by kernel_rfl) (by kernel_rfl) (by kernel_rfl) (fun _ _ _ h => h) (Or.inl ⟨by rfl, ?_⟩) (by assumption) ?_
      rotate_left
      · (intro w' hSw; (try dsimp only at hSw); go_simp; try with_reducible rfl)
      try simp only [Act.put]
      refine wpAnyH_take (i := 8) (v := undef) rfl (by kernel_rfl) (by kernel_rfl) (by kernel_rfl) (fun _ _ _ h => h) (Or.inr ⟨by kernel_rfl, rfl⟩) (by assumption) ?_
      try simp only [Act.put]
      refine wpAnyH_take (i := 9) (v := undef) rfl (by kernel_rfl) (by kernel_rfl) (by kernel_rfl) (fun _ _ _ h => h) (Or.inr ⟨by kernel_rfl, rfl⟩) (by assumption) ?_
      try simp only [Act.put]
      refine wpAnyH_take (i := 10) (v := undef) rfl (by kernel_rfl) (by kernel_rfl) (by kernel_rfl) (fun _ _ _ h => h) (Or.inr ⟨by kernel_rfl, rfl⟩) (by assumption) ?_
      try simp only [Act.put]
      refine wpAnyH_take (i := 11) (v := undef) rfl (by kernel_rfl) (by kernel_rfl) (by kernel_rfl) (fun _ _ _ h => h) (Or.inr ⟨by kernel_rfl, rfl⟩) (by assumption) ?_
      try simp only [Act.put]
      refine wpAnyH_take (i := 12) (v := undef) rfl (by kernel_rfl) (by kernel_rfl) (by kernel_rfl) (fun _ _ _ h => h) (Or.inr ⟨by kernel_rfl, rfl⟩) (by assumption) ?_
      try simp only [Act.put]
      refine wpAnyH_take (i := 13) (v := ?_) rfl (by kernel_rfl) (by kernel_rfl) (by kernel_rfl) (fun _ _ _ h => h) (Or.inl ⟨by rfl, ?_⟩) (by assumption) ?_
      rotate_left
      · (intro w' hSw; (try dsimp only at hSw); go_simp; try with_reducible rfl)
      try simp only [Act.put]
      refine wpAnyH_done (by kernel_rfl) ?_ _
      go_simp
      clear hHeld hHeld2
      have B2 := Lib.hid (B1.out.drew.trans (hb2.mono (by have := B1.out.size; simpa using this)))
      have HE2 := Lib.hid (HE1.out.drew.below hb2)
      clear hb2 x0 x1 x2 XP1 B1 hd HE1
      have g1 := HE2.out.g1
      go_wp2_with fail
      go_quiet (fail)
      go_wp2
      go_ret2
      exact ⟨ret_on HT.out.symm HV.out.symm, below_drN B2.out _⟩
  · have HB := Lib.hid (show ¬ HasB d ⟨at_, sum, birth⟩ side from fun h => hok (Or.inr h.2.1))
    have HT := Lib.hid (show onText d ⟨at_, sum, birth⟩ side = ⟨#[]⟩ from if_neg HB.out)
    have HV := Lib.hid (show onErr d ⟨at_, sum, birth⟩ side a0 a1 = ev a1 from by unfold onErr; rw [if_neg HN.out, if_neg HB.out])
    have hd := decide_eq_false hok
    clear hok
    obtain ⟨r, HR⟩ : ∃ r, Hid (decide (CanRead d side at_) = r) := ⟨_, Lib.hid rfl⟩
    rw [HR.out]
    go_wp2_with fail
    refine wp_region_held_drew (S := fun w' => w'.cell? ⟨w.heap.size + 1, 0, none⟩ = some (.int .i64 at_) ∧ w'.cell? ⟨w.heap.size + 1, 1, none⟩ = some (.int .i64 sum) ∧ w'.cell? ⟨w.heap.size + 1, 2, none⟩ = some (.int .i64 birth)) (by kernel_rfl) ⟨x0, x1, x2⟩ (fun hHeld => ?_)
    refine wpAnyH_take (i := 0) (v := ?_) rfl (by kernel_rfl) (by kernel_rfl) (by kernel_rfl) (fun _ _ _ h => h) (Or.inl ⟨by rfl, ?_⟩) (by assumption) ?_
    rotate_left
    · (intro w' hSw; (try dsimp only at hSw); go_simp; try with_reducible rfl)
    try simp only [Act.put]
    refine wpAnyH_ready (rs := [1]) (by kernel_rfl) (by simp) ?_
    refine AllReadyH.cons rfl (fun K hK => ?_) AllReadyH.nil
    go_simp
    go_at_call 139
    with_reducible refine (implPtrOk_is ⟨at_, sum, birth⟩ _ false hd).mono ?_
    rintro e w2 ⟨rfl, hb2⟩
    go_wp2_with fail
    refine hK.out _ _ ?_ (fun hHeld2 => ?_)
    · first | go_keep | (go_split_ands; refine ⟨?_, ?_, ?_⟩; all_goals (rw [hb2.cell (by simp <;> omega)]; assumption))
    clear hK K
    try simp only [Act.put]
    refine wpAnyH_take (i := 2) (v := ?_) rfl (by kernel_rfl) (by kernel_rfl) (by kernel_rfl) (fun _ _ _ h => h) (Or.inl ⟨by rfl, ?_⟩) (by assumption) ?_
    rotate_left
    · (intro w' hSw; (try dsimp only at hSw); go_simp; try with_reducible rfl)
    try simp only [Act.put]
    refine wpAnyH_take (i := 3) (v := ?_) rfl (by kernel_rfl) (by kernel_rfl) (by kernel_rfl) (fun _ _ _ h => h) (Or.inl ⟨by rfl, ?_⟩) (by assumption) ?_
    rotate_left
    · (intro w' hSw; (try dsimp only at hSw); go_simp; try with_reducible rfl)
    try simp only [Act.put]
    refine wpAnyH_take (i := 4) (v := undef) rfl (by kernel_rfl) (by kernel_rfl) (by kernel_rfl) (fun _ _ _ h => h) (Or.inr ⟨by kernel_rfl, rfl⟩) (by assumption) ?_
    try simp only [Act.put]
    refine wpAnyH_take (i := 5) (v := undef) rfl (by kernel_rfl) (by kernel_rfl) (by kernel_rfl) (fun _ _ _ h => h) (Or.inr ⟨by kernel_rfl, rfl⟩) (by assumption) ?_
    try simp only [Act.put]
    refine wpAnyH_take (i := 6) (v := ?_) rfl (by kernel_rfl) (by kernel_rfl) (by kernel_rfl) (fun _ _ _ h => h) (Or.inl ⟨by rfl, ?_⟩) (by assumption) ?_
    rotate_left
    · (intro w' hSw; (try dsimp only at hSw); go_simp; try with_reducible rfl)
    try simp only [Act.put]
    refine wpAnyH_take (i := 7) (v := ?_) rfl (by kernel_rfl) (by kernel_rfl) (by kernel_rfl) (fun _ _ _ h => h) (Or.inl ⟨by rfl, ?_⟩) (by assumption) ?_
    rotate_left
    · (intro w' hSw; (try dsimp only at hSw); go_simp; try with_reducible rfl)
    try simp only [Act.put]
    refine wpAnyH_take (i := 8) (v := undef) rfl (by kernel_rfl) (by kernel_rfl) (by kernel_rfl) (fun _ _ _ h => h) (Or.inr ⟨by kernel_rfl, rfl⟩) (by assumption) ?_
    try simp only [Act.put]
    refine wpAnyH_take (i := 9) (v := undef) rfl (by kernel_rfl) (by kernel_rfl) (by kernel_rfl) (fun _ _ _ h => h) (Or.inr ⟨by kernel_rfl, rfl⟩) (by assumption) ?_
    try simp only [Act.put]
    refine wpAnyH_take (i := 10) (v := undef) rfl (by kernel_rfl) (by kernel_rfl) (by kernel_rfl) (fun _ _ _ h => h) (Or.inr ⟨by kernel_rfl, rfl⟩) (by assumption) ?_
    try simp only [Act.put]
    refine wpAnyH_take (i := 11) (v := undef) rfl (by kernel_rfl) (by kernel_rfl) (by kernel_rfl) (fun _ _ _ h => h) (Or.inr ⟨by kernel_rfl, rfl⟩) (by assumption) ?_
    try simp only [Act.put]
    refine wpAnyH_take (i := 12) (v := undef) rfl (by kernel_rfl) (by kernel_rfl) (by kernel_rfl) (fun _ _ _ h => h) (Or.inr ⟨by kernel_rfl, rfl⟩) (by assumption) ?_
    try simp only [Act.put]
    refine wpAnyH_take (i := 13) (v := ?_) rfl (by kernel_rfl) (by kernel_rfl) (by kernel_rfl) (fun _ _ _ h => h) (Or.inl ⟨by rfl, ?_⟩) (by assumption) ?_
    rotate_left
    · (intro w' hSw; (try dsimp only at hSw); go_simp; try with_reducible rfl)
    try simp only [Act.put]
    refine wpAnyH_done (by kernel_rfl) ?_ _
    go_simp
    clear hHeld hHeld2
    have B2 := Lib.hid (B1.out.drew.trans (hb2.mono (by have := B1.out.size; simpa using this)))
    have HE2 := Lib.hid (HE1.out.drew.below hb2)
    clear hb2 x0 x1 x2 XP1 B1 hd HE1
    have g1 := HE2.out.g1
    go_wp2_with fail
    go_quiet (fail)
    go_wp2
    go_ret2
    exact ⟨ret_on HT.out.symm HV.out.symm, below_drN B2.out _⟩
end Go.Proofs.YtojjenclcidnkaaGreatDoor
