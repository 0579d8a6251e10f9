/-
  The pieces of impl's reading of a record.
-/
import Derived.Test.YtgjlhokakcdpbaaGreatDoorILog
import Derived.Test.YtgjlhokakcdpbaaGreatDoorSLogR
import Derived.Test.YtgjlhokakcdpbaaGreatDoorPtrRdI
import Derived.Test.YtgjlhokakcdpbaaGreatDoorImplOpen
set_option maxRecDepth 100000
namespace Go.Proofs.YtgjlhokakcdpbaaGreatDoor
open Go.ChangeShapes Go.WideShapes Go.ChangeAt Go.RowKit Go.Proofs.Palim

/-- What the reading of records looks at: the library's variables, and the table of digits. -/
structure LogVars (w : World) : Prop where
  libs : LibVars w
  tab : HasTab w
theorem LogVars.below {w w' : World} (h : LogVars w) (hb : Below w.heap.size w w') : LogVars w' := ⟨h.libs.below hb, h.tab.below hb h.tab.lt⟩
def NumLogPost (s : ByteArray) (w : World) (e : Ending) (w' : World) : Prop :=
  Below w.heap.size w w' ∧ ((∃ n, Lib.atoiAll s.data.toList = .ok n ∧ e = .returned (.int .i64 n)) ∨ ((∀ n, Lib.atoiAll s.data.toList ≠ .ok n) ∧ e = .panicked malformed))
theorem numLog_any (s : ByteArray) (w : World) (hs : s.size ≤ 1048576) (hv : LibVars w) : Calls Tryz.prog 116 #[.string s] w (NumLogPost s w) := by
  go_enter Tryz.func116, Tryz.ntmps116
  go_wp2_with fail
  refine (atoi_any s _ hs hv).mono ?_
  rintro e w1 ⟨hb, h⟩
  rcases h with ⟨n, hn, rfl⟩ | ⟨hn, n, te, pe, rfl⟩
  · have HN := Lib.hid hn
    clear hn
    go_wp2
    go_ret
    exact ⟨hb, Or.inl ⟨n, HN.out, rfl⟩⟩
  · have HN := Lib.hid hn
    clear hn
    go_wp2
    exact ⟨rfl, hb, Or.inr ⟨HN.out, rfl⟩⟩
/-- The bytes are a mark of these two numbers. -/
def MarkIs (a : ByteArray) (m q : Nat) : Prop := m < 100000000 ∧ q < 100000000 ∧ a.data.toList = Lib.decDigits m ++ 46 :: Lib.decDigits q
def MarkOfPost (a : ByteArray) (w : World) (e : Ending) (w' : World) : Prop :=
  Below w.heap.size w w' ∧ ((∃ n k : Int, (∀ m q : Nat, MarkIs a m q → n = (m : Int) ∧ k = (q : Int)) ∧ e = .returned (.agg #[.int .i64 n, .int .i64 k])) ∨ ((∀ m q : Nat, ¬ MarkIs a m q) ∧ e = .panicked malformed))
set_option maxHeartbeats 1000000 in
theorem markOf_any (a : ByteArray) (w : World) (hs : a.size ≤ 1048576) (hv : LibVars w) : Calls Tryz.prog 115 #[.string a] w (MarkOfPost a w) := by
  have X0 := Lib.hid (box_new w #[.int .i64 0, .int .i64 0] 149)
  have B0 := Lib.hid (Below.new (w := w) (.cells #[.int .i64 0, .int .i64 0] 149))
  have V0 := Lib.hid (hv.below B0.out)
  clear hv
  go_enter Tryz.func115, Tryz.ntmps115
  go_wp2_with fail
  refine (cutP_any a _ hs V0.out).mono ?_
  rintro e w1 ⟨p, q, c, rfl, hp, hq, hps, hqs, hb⟩
  have X1 := Lib.hid (X0.out.below hb X0.out.lt)
  have B1 := Lib.hid (B0.out.trans (hb.mono B0.out.size))
  have V1 := Lib.hid (V0.out.below hb)
  have HC := Lib.hid (show ∀ m k : Nat, MarkIs a m k → p.data.toList = Lib.decDigits m ∧ q.data.toList = Lib.decDigits k from fun m k h => by
    rw [h.2.2, cut_at _ _ (dd_point m)] at hp hq
    exact ⟨hp, hq⟩)
  clear hb X0 B0 V0 hp hq
  go_wp2_with fail
  refine (numLog_any p _ (by omega) V1.out).mono ?_
  rintro e w2 ⟨hb, h⟩
  have X2 := Lib.hid (X1.out.below hb X1.out.lt)
  have B2 := Lib.hid (B1.out.trans (hb.mono B1.out.size))
  have V2 := Lib.hid (V1.out.below hb)
  clear hb X1 B1 V1
  rcases h with ⟨n, hn, rfl⟩ | ⟨hn, rfl⟩
  rotate_left
  · have HN := Lib.hid (show ∀ m k : Nat, ¬ MarkIs a m k from fun m k h => hn m (by rw [(HC.out m k h).1]; exact atoi_digs m (by have := h.1; omega)))
    clear hn
    go_wp2
    exact ⟨rfl, B2.out, Or.inr ⟨HN.out, rfl⟩⟩
  have HN1 := Lib.hid (show ∀ m k : Nat, MarkIs a m k → n = (m : Int) from fun m k h => by
    have := hn
    rw [(HC.out m k h).1, atoi_digs m (by have := h.1; omega)] at this
    injection this with this
    exact this.symm)
  clear hn
  go_wp2_with fail
  refine (numLog_any q _ (by omega) V2.out).mono ?_
  rintro e w3 ⟨hb, h⟩
  have X3 := Lib.hid (X2.out.below hb X2.out.lt)
  have B3 := Lib.hid (B2.out.trans (hb.mono B2.out.size))
  clear hb X2 B2 V2
  rcases h with ⟨k, hk, rfl⟩ | ⟨hk, rfl⟩
  rotate_left
  · have HN := Lib.hid (show ∀ m j : Nat, ¬ MarkIs a m j from fun m j h => hk j (by rw [(HC.out m j h).2]; exact atoi_digs j (by have := h.2.1; omega)))
    clear hk
    go_wp2
    exact ⟨rfl, B3.out, Or.inr ⟨HN.out, rfl⟩⟩
  have HN2 := Lib.hid (show ∀ m j : Nat, MarkIs a m j → n = (m : Int) ∧ k = (j : Int) from fun m j h => by
    refine ⟨HN1.out m j h, ?_⟩
    have := hk
    rw [(HC.out m j h).2, atoi_digs j (by have := h.2.1; omega)] at this
    injection this with this
    exact this.symm)
  clear hk HN1 HC
  have c0 := X3.out.cell 0 rfl
  have c1 := X3.out.cell 1 rfl
  have f0 := X3.out.open_ 0
  have f1 := X3.out.open_ 1
  have XE := Lib.hid (show Box _ w.heap.size [.int .i64 n, .int .i64 k] from (X3.out.set 0 (.int .i64 n)).set 1 (.int .i64 k))
  have BE := Lib.hid ((B3.out.setCell (p := ⟨w.heap.size, 0, none⟩) (Nat.le_refl _) (.int .i64 n)).setCell (p := ⟨w.heap.size, 1, none⟩) (Nat.le_refl _) (.int .i64 k))
  go_wp2
  have y0 := XE.out.cell 0 rfl
  have y1 := XE.out.cell 1 rfl
  refine bodyPost_ret (v := .agg #[.int .i64 n, .int .i64 k]) ?_ rfl ⟨BE.out, Or.inl ⟨n, k, HN2.out, rfl⟩⟩
  simp [results, Tryz.results115, go_sem, y0, y1]
def BytesOfPost (a : ByteArray) (w : World) (e : Ending) (w' : World) : Prop :=
  Below w.heap.size w w' ∧ (e = .returned (.string (textOf a)) ∨ (a ≠ dashB ∧ unhex a.data.toList = none ∧ e = .panicked malformed))
set_option maxHeartbeats 1000000 in
theorem bytesOf_any (a : ByteArray) (w : World) (hs : a.size ≤ 1048576) (hg : HasTab w) : Calls Tryz.prog 117 #[.string a] w (BytesOfPost a w) := by
  have hnot : ∀ (x : Bool) (w : World), (Op.unary .not (.bool x)).run Tryz.prog w = .ok (.bool (!x)) w := fun _ _ => rfl
  by_cases hd : a = dashB
  · have HX := Lib.hid (show (⟨#[]⟩ : ByteArray) = textOf a from by unfold textOf; rw [if_pos hd])
    have hdq : (a.toList == [45]) = true := by rw [hd, ByteArray.toList_eq]; rfl
    clear hd
    go_enter Tryz.func117, Tryz.ntmps117
    go_wp2
    go_ret
    exact ⟨Below.refl _ _, Or.inl (ret_s HX.out)⟩
  · have hdq : (a.toList == [45]) = false := by
      rw [beq_eq_false_iff_ne, ByteArray.toList_eq]
      exact fun e => hd (ByteArray.ext (Array.ext' e))
    go_enter Tryz.func117, Tryz.ntmps117
    go_wp2_with fail
    refine (implUnhex_any a _ hs hg).mono ?_
    rintro e w1 ⟨hb, h⟩
    have B1 := Lib.hid hb
    clear hb
    rcases h with ⟨o, ho, rfl⟩ | ⟨ho, rfl⟩
    · have HX := Lib.hid (textOf_some hd ho).symm
      clear ho
      go_wp2
      go_ret
      exact ⟨B1.out, Or.inl (ret_s HX.out)⟩
    · have HN := Lib.hid (And.intro hd ho)
      clear ho
      go_wp2
      exact ⟨rfl, B1.out, Or.inr ⟨HN.out.1, HN.out.2, rfl⟩⟩
set_option maxHeartbeats 1000000 in
theorem recOf_any (n k n' k' i : Int) (a x : ByteArray) (w : World) :
    Calls Tryz.prog 114 #[.agg #[.iface 149 (.agg #[.int .i64 n, .int .i64 k]), .iface 150 (.string a), .iface 151 (.int .i64 i), .iface 152 (.string x), .iface 149 (.agg #[.int .i64 n', .int .i64 k'])]] w
      fun e w' => e = .returned (rv ⟨n, k, 3, a, ⟨#[]⟩, i, x⟩) ∧ Below w.heap.size w w' := by
  obtain ⟨b1, b2, b3, hsz, hB⟩ := box3 w #[.iface 149 (.agg #[.int .i64 n, .int .i64 k]), .iface 150 (.string a), .iface 151 (.int .i64 i), .iface 152 (.string x), .iface 149 (.agg #[.int .i64 n', .int .i64 k'])] #[.int .i64 0, .int .i64 0, .int .i64 0, .string ⟨#[]⟩, .string ⟨#[]⟩, .int .i64 0, .string ⟨#[]⟩] #[.int .i64 n, .int .i64 k] 81 26 149
  have HA := Lib.hid b1
  have HB := Lib.hid b2
  have HC := Lib.hid b3
  have HD := Lib.hid hB
  clear b1 b2 b3 hsz hB
  have ta0 : ∀ (v : Value) (w : World), (Instr.typeAssert (.iface 149 v) 80 149 false).run Tryz.prog w = .ok v w := fun _ _ => by kernel_rfl
  have ta1 : ∀ (v : Value) (w : World), (Instr.typeAssert (.iface 150 v) 80 150 false).run Tryz.prog w = .ok v w := fun _ _ => by kernel_rfl
  have ta2 : ∀ (v : Value) (w : World), (Instr.typeAssert (.iface 151 v) 80 151 false).run Tryz.prog w = .ok v w := fun _ _ => by kernel_rfl
  have ta3 : ∀ (v : Value) (w : World), (Instr.typeAssert (.iface 152 v) 80 152 false).run Tryz.prog w = .ok v w := fun _ _ => by kernel_rfl
  go_enter Tryz.func114, Tryz.ntmps114
  go_wp2_with fail
  obtain ⟨W3, HW⟩ : ∃ W3, ((w.alloc (.cells #[.iface 149 (.agg #[.int .i64 n, .int .i64 k]), .iface 150 (.string a), .iface 151 (.int .i64 i), .iface 152 (.string x), .iface 149 (.agg #[.int .i64 n', .int .i64 k'])] 81)).alloc (.cells #[.int .i64 0, .int .i64 0, .int .i64 0, .string ⟨#[]⟩, .string ⟨#[]⟩, .int .i64 0, .string ⟨#[]⟩] 26)).alloc (.cells #[.int .i64 n, .int .i64 k] 149) = W3 := ⟨_, rfl⟩
  rw [HW] at HA HB HC HD ⊢
  clear HW
  refine wp_region_held_drew (S := fun w' => w'.cell? ⟨w.heap.size, 1, none⟩ = some (.iface 150 (.string a)) ∧ w'.cell? ⟨w.heap.size, 2, none⟩ = some (.iface 151 (.int .i64 i)) ∧ w'.cell? ⟨w.heap.size, 3, none⟩ = some (.iface 152 (.string x))) (by kernel_rfl) ⟨HA.out.cell 1 rfl, HA.out.cell 2 rfl, HA.out.cell 3 rfl⟩ (fun hHeld => ?_)
  have hA := HA.out.drew
  have hB := HB.out.drew
  have hC := HC.out.drew
  have hD := HD.out.drew
  generalize W3.drew = wd at hHeld hA hB hC hD ⊢
  refine wpAnyH_take (i := 0) (v := ?_) rfl (by kernel_rfl) (by kernel_rfl) (by kernel_rfl) (fun _ _ _ h => h) (Or.inl ⟨by rfl, ?_⟩) (by assumption) ?_
  rotate_left
  · (intro w' hSw; (try dsimp only at hSw); obtain ⟨hc1, hc2, hc3⟩ := hSw; go_simp; try with_reducible rfl)
  try simp only [Act.put]
  refine wpAnyH_take (i := 1) (v := ?_) rfl (by kernel_rfl) (by kernel_rfl) (by kernel_rfl) (fun _ _ _ h => h) (Or.inl ⟨by rfl, ?_⟩) (by assumption) ?_
  rotate_left
  · (intro w' hSw; (try dsimp only at hSw); obtain ⟨hc1, hc2, hc3⟩ := hSw; go_simp; try with_reducible rfl)
  try simp only [Act.put]
  refine wpAnyH_take (i := 2) (v := ?_) rfl (by kernel_rfl) (by kernel_rfl) (by kernel_rfl) (fun _ _ _ h => h) (Or.inl ⟨by rfl, ?_⟩) (by assumption) ?_
  rotate_left
  · (intro w' hSw; (try dsimp only at hSw); obtain ⟨hc1, hc2, hc3⟩ := hSw; go_simp; try with_reducible rfl)
  try simp only [Act.put]
  refine wpAnyH_take (i := 3) (v := ?_) rfl (by kernel_rfl) (by kernel_rfl) (by kernel_rfl) (fun _ _ _ h => h) (Or.inl ⟨by rfl, ?_⟩) (by assumption) ?_
  rotate_left
  · (intro w' hSw; (try dsimp only at hSw); obtain ⟨hc1, hc2, hc3⟩ := hSw; go_simp; try with_reducible rfl)
  try simp only [Act.put]
  refine wpAnyH_take (i := 4) (v := ?_) rfl (by kernel_rfl) (by kernel_rfl) (by kernel_rfl) (fun _ _ _ h => h) (Or.inl ⟨by rfl, ?_⟩) (by assumption) ?_
  rotate_left
  · (intro w' hSw; (try dsimp only at hSw); obtain ⟨hc1, hc2, hc3⟩ := hSw; go_simp; try with_reducible rfl)
  try simp only [Act.put]
  refine wpAnyH_take (i := 5) (v := ?_) rfl (by kernel_rfl) (by kernel_rfl) (by kernel_rfl) (fun _ _ _ h => h) (Or.inl ⟨by rfl, ?_⟩) (by assumption) ?_
  rotate_left
  · (intro w' hSw; (try dsimp only at hSw); obtain ⟨hc1, hc2, hc3⟩ := hSw; go_simp; try with_reducible rfl)
  try simp only [Act.put]
  refine wpAnyH_take (i := 6) (v := ?_) rfl (by kernel_rfl) (by kernel_rfl) (by kernel_rfl) (fun _ _ _ h => h) (Or.inl ⟨by rfl, ?_⟩) (by assumption) ?_
  rotate_left
  · (intro w' hSw; (try dsimp only at hSw); obtain ⟨hc1, hc2, hc3⟩ := hSw; go_simp; try with_reducible rfl)
  try simp only [Act.put]
  refine wpAnyH_take (i := 7) (v := ?_) rfl (by kernel_rfl) (by kernel_rfl) (by kernel_rfl) (fun _ _ _ h => h) (Or.inl ⟨by rfl, ?_⟩) (by assumption) ?_
  rotate_left
  · (intro w' hSw; (try dsimp only at hSw); obtain ⟨hc1, hc2, hc3⟩ := hSw; go_simp; try with_reducible rfl)
  try simp only [Act.put]
  refine wpAnyH_take (i := 8) (v := ?_) rfl (by kernel_rfl) (by kernel_rfl) (by kernel_rfl) (fun _ _ _ h => h) (Or.inl ⟨by rfl, ?_⟩) (by assumption) ?_
  rotate_left
  · (intro w' hSw; (try dsimp only at hSw); obtain ⟨hc1, hc2, hc3⟩ := hSw; go_simp; try with_reducible rfl)
  try simp only [Act.put]
  refine wpAnyH_take (i := 9) (v := ?_) rfl (by kernel_rfl) (by kernel_rfl) (by kernel_rfl) (fun _ _ _ h => h) (Or.inl ⟨by rfl, ?_⟩) (by assumption) ?_
  rotate_left
  · (intro w' hSw; (try dsimp only at hSw); obtain ⟨hc1, hc2, hc3⟩ := hSw; go_simp; try with_reducible rfl)
  try simp only [Act.put]
  refine wpAnyH_ready (rs := [10]) (by kernel_rfl) (by simp) ?_
  refine AllReadyH.cons rfl (fun K hK => ?_) (AllReadyH.nil)
  have hE := box_new wd #[.int .i64 0, .string ⟨#[]⟩, .string ⟨#[]⟩, .int .i64 0, .string ⟨#[]⟩] 24
  have hn := Below.new (w := wd) (.cells #[.int .i64 0, .string ⟨#[]⟩, .string ⟨#[]⟩, .int .i64 0, .string ⟨#[]⟩] 24)
  have hA1 := hA.below hn hA.lt
  have hB1 := hB.below hn hB.lt
  have hC1 := hC.below hn hC.lt
  have hD1 := hD.trans (hn.mono hD.size)
  go_simp
  refine hK.out _ _ ⟨hA1.cell 1 rfl, hA1.cell 2 rfl, hA1.cell 3 rfl⟩ (fun hHeld1 => ?_)
  clear hK K
  try simp only [Act.put]
  try (change wpAnyH _ _ _ _ _ _ _ _ (wd.alloc (.cells #[.int .i64 0, .string ⟨#[]⟩, .string ⟨#[]⟩, .int .i64 0, .string ⟨#[]⟩] 24)))
  generalize (wd.alloc (.cells #[.int .i64 0, .string ⟨#[]⟩, .string ⟨#[]⟩, .int .i64 0, .string ⟨#[]⟩] 24)) = w4 at hE hn hA1 hB1 hC1 hD1 ⊢
  refine wpAnyH_ready (rs := [11]) (by kernel_rfl) (by simp) ?_
  refine AllReadyH.cons rfl (fun K hK => ?_) (AllReadyH.nil)
  have q0 := hE.cell 0 rfl
  have q1 := hE.cell 1 rfl
  have q2 := hE.cell 2 rfl
  have q3 := hE.cell 3 rfl
  have q4 := hE.cell 4 rfl
  have f0 := hE.open_ 0
  have f1 := hE.open_ 1
  have f2 := hE.open_ 2
  have f3 := hE.open_ 3
  have f4 := hE.open_ 4
  have hF : Box _ wd.heap.size [.int .i64 3, .string a, .string ⟨#[]⟩, .int .i64 i, .string x] := (((((hE.set 0 (.int .i64 3)).set 1 (.string a)).set 2 (.string ⟨#[]⟩)).set 3 (.int .i64 i)).set 4 (.string x))
  have hFb := (((((hn.setCell (p := ⟨wd.heap.size, 0, none⟩) (Nat.le_refl _) (.int .i64 3)).setCell (p := ⟨wd.heap.size, 1, none⟩) (Nat.le_refl _) (.string a)).setCell (p := ⟨wd.heap.size, 2, none⟩) (Nat.le_refl _) (.string ⟨#[]⟩)).setCell (p := ⟨wd.heap.size, 3, none⟩) (Nat.le_refl _) (.int .i64 i)).setCell (p := ⟨wd.heap.size, 4, none⟩) (Nat.le_refl _) (.string x))
  have hA2 := hA.below hFb hA.lt
  have hB2 := hB.below hFb hB.lt
  have hC2 := hC.below hFb hC.lt
  have hD2 := hD.trans (hFb.mono hD.size)
  go_simp
  refine hK.out _ _ ⟨hA2.cell 1 rfl, hA2.cell 2 rfl, hA2.cell 3 rfl⟩ (fun hHeld2 => ?_)
  clear hK K
  try simp only [Act.put]
  try (change wpAnyH _ _ _ _ _ _ _ _ (((((w4.setCell ⟨wd.heap.size, 0, none⟩ (.int .i64 3)).setCell ⟨wd.heap.size, 1, none⟩ (.string a)).setCell ⟨wd.heap.size, 2, none⟩ (.string ⟨#[]⟩)).setCell ⟨wd.heap.size, 3, none⟩ (.int .i64 i)).setCell ⟨wd.heap.size, 4, none⟩ (.string x)))
  generalize (((((w4.setCell ⟨wd.heap.size, 0, none⟩ (.int .i64 3)).setCell ⟨wd.heap.size, 1, none⟩ (.string a)).setCell ⟨wd.heap.size, 2, none⟩ (.string ⟨#[]⟩)).setCell ⟨wd.heap.size, 3, none⟩ (.int .i64 i)).setCell ⟨wd.heap.size, 4, none⟩ (.string x)) = w5 at hF hA2 hB2 hC2 hD2 ⊢
  refine wpAnyH_done (by kernel_rfl) ?_ _
  go_simp
  have C0 := hC2.cell 0 rfl
  have C1 := hC2.cell 1 rfl
  have F0 := hF.cell 0 rfl
  have F1 := hF.cell 1 rfl
  have F2 := hF.cell 2 rfl
  have F3 := hF.cell 3 rfl
  have F4 := hF.cell 4 rfl
  have XB := Lib.hid hB2
  have BB := Lib.hid hD2
  clear hA2 hC2 hD2 hB2 hA hB hC hD hA1 hB1 hC1 hD1
  have b0 := XB.out.cell 0 rfl
  have b1 := XB.out.cell 1 rfl
  have b2 := XB.out.cell 2 rfl
  have b3 := XB.out.cell 3 rfl
  have b4 := XB.out.cell 4 rfl
  have b5 := XB.out.cell 5 rfl
  have b6 := XB.out.cell 6 rfl
  have g0 := XB.out.open_ 0
  have g1 := XB.out.open_ 1
  have g2 := XB.out.open_ 2
  have g3 := XB.out.open_ 3
  have g4 := XB.out.open_ 4
  have g5 := XB.out.open_ 5
  have g6 := XB.out.open_ 6
  have XE := Lib.hid (show Box _ (w.heap.size + 1) [.int .i64 n, .int .i64 k, .int .i64 3, .string a, .string ⟨#[]⟩, .int .i64 i, .string x] from (((((((XB.out.set 0 (.int .i64 n)).set 1 (.int .i64 k)).set 2 (.int .i64 3)).set 3 (.string a)).set 4 (.string ⟨#[]⟩)).set 5 (.int .i64 i)).set 6 (.string x)))
  have BE := Lib.hid (((((((BB.out.setCell (p := ⟨w.heap.size + 1, 0, none⟩) (Nat.le_succ _) (.int .i64 n)).setCell (p := ⟨w.heap.size + 1, 1, none⟩) (Nat.le_succ _) (.int .i64 k)).setCell (p := ⟨w.heap.size + 1, 2, none⟩) (Nat.le_succ _) (.int .i64 3)).setCell (p := ⟨w.heap.size + 1, 3, none⟩) (Nat.le_succ _) (.string a)).setCell (p := ⟨w.heap.size + 1, 4, none⟩) (Nat.le_succ _) (.string ⟨#[]⟩)).setCell (p := ⟨w.heap.size + 1, 5, none⟩) (Nat.le_succ _) (.int .i64 i)).setCell (p := ⟨w.heap.size + 1, 6, none⟩) (Nat.le_succ _) (.string x))
  go_wp2
  have y0 := XE.out.cell 0 rfl
  have y1 := XE.out.cell 1 rfl
  have y2 := XE.out.cell 2 rfl
  have y3 := XE.out.cell 3 rfl
  have y4 := XE.out.cell 4 rfl
  have y5 := XE.out.cell 5 rfl
  have y6 := XE.out.cell 6 rfl
  refine bodyPost_ret (v := rv ⟨n, k, 3, a, ⟨#[]⟩, i, x⟩) ?_ rfl ⟨rfl, BE.out⟩
  simp [results, Tryz.results114, go_sem, y0, y1, y2, y3, y4, y5, y6]
end Go.Proofs.YtgjlhokakcdpbaaGreatDoor
