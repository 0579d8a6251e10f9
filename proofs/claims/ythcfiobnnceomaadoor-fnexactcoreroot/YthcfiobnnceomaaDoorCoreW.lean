/-
  coreWriter: lines of words.
-/
import Derived.Test.YthcfiobnnceomaaDoorJoinS
import Derived.Test.YthcfiobnnceomaaDoorDiskLaw
import Derived.Deep.RegionHeld3
set_option maxRecDepth 100000
namespace Go.Proofs.YthcfiobnnceomaaDoor
open Go.ChangeShapes Go.WideShapes Go.ChangeAt Go.RowKit Go.Proofs.Palim

/-- A writer in block x: the lines it holds. -/
structure Wr (w : World) (x base : Nat) (v : Value) (ls : List ByteArray) : Prop where
  box : Box w x [v]
  own : w.ownsRow base 9 1 v ls.length (scs ls)
  ne : ∀ b, v.ownBlock = some b → b ≠ x
  le : base ≤ x
theorem Wr.below {w w' : World} {x base : Nat} {v : Value} {ls : List ByteArray} (h : Wr w x base v ls) (hb : Below w.heap.size w w') : Wr w' x base v ls :=
  ⟨h.box.below hb h.box.lt, own_kept h.own (fun b e => hb.block b (h.own.lt b e).2), h.ne, h.le⟩
theorem wr_new (w : World) (e : Nat) : Wr (w.alloc (.cells #[.slice none 0 0] e)) w.heap.size w.heap.size (.slice none 0 0) [] :=
  ⟨box_new _ _ _, ⟨rfl, .inl ⟨rfl, rfl⟩⟩, (fun b e => by cases e), Nat.le_refl _⟩
theorem Wr.more {w wr w2 : World} {x base n c cap : Nat} {A A2 : Option Addr} {ls : List ByteArray} {t : ByteArray} (h : Wr wr x base (.slice A n c) ls) (hb : Below base w wr)
    (hw : w2.ownsRow base 9 1 (.slice A2 (ls.length + 1) cap) (ls.length + 1) (scs ls ++ [.string t])) (hg : wr.grownBy w2 (Value.slice A n c).ownBlock) (hat : (Value.slice A2 (ls.length + 1) cap).ownBlock = (Value.slice A n c).ownBlock ∨ (Value.slice A2 (ls.length + 1) cap).ownBlock = some wr.heap.size) :
    Box w2 x [.slice A n c] ∧ (∃ v', Wr (w2.setCell ⟨x, 0, none⟩ (.slice A2 (ls.length + 1) cap)) x base v' (ls ++ [t])) ∧ Below base w (w2.setCell ⟨x, 0, none⟩ (.slice A2 (ls.length + 1) cap)) := by
  have hbx : Box w2 x [.slice A n c] := h.box.kept (hg.block x h.box.lt (fun e => h.ne x e.symm rfl))
  have hne : ∀ b, (Value.slice A2 (ls.length + 1) cap).ownBlock = some b → b ≠ x := by
    intro b e
    rcases hat with h' | h'
    · exact h.ne b (h' ▸ e)
    · rw [h'] at e
      have e' := Option.some.inj e
      have := h.box.lt
      omega
  refine ⟨hbx, ⟨.slice A2 (ls.length + 1) cap, hbx.set 0 _, ?_, hne, h.le⟩, ?_⟩
  · rw [show (ls ++ [t]).length = ls.length + 1 by simp, scs_snoc]
    exact own_kept hw (fun b e => Below.heap_setCell _ _ _ _ (fun e' => hne b e e'))
  · exact (hb.grown hg (Nat.le_trans h.le (Nat.le_of_lt h.box.lt)) (fun b e => (h.own.lt b e).1)).setCell (p := ⟨x, 0, none⟩) h.le _

/-- What line leaves. -/
def LinePost (w : World) (x base : Nat) (ls : List ByteArray) (e : Ending) (w' : World) : Prop :=
  e = .returned (.tuple #[]) ∧ (∃ v', Wr w' x base v' ls) ∧ Below base w w'

/-- The blocks that line turns. -/
def LineS (x : Nat) (v : Value) (b : Nat) : Prop := b = x ∨ v.ownBlock = some b
def LineT (w : World) (x base : Nat) (v : Value) (ls : List ByteArray) (e : Ending) (w' : World) : Prop :=
  e = .returned (.tuple #[]) ∧ (∃ v', Wr w' x base v' ls) ∧ Below base w w' ∧ Turned (LineS x v) w w'

set_option maxHeartbeats 2000000 in
theorem lineT_any (x base : Nat) (v : Value) (ls : List ByteArray) (wv : Value) (ws : List ByteArray) (t : ByteArray) (w : World) (h : Wr w x base v ls) (hw : Sl w 1 wv ws.length (scs ws)) (hwv : Low w.heap.size wv)
    (hn : ls.length ≤ 4000000) (hN : ws.length ≤ 4000000) (hlen : t.size ≤ 140737488355328) (ht : joinB ws ⟨#[32]⟩ = t) :
    Calls Tryd.prog 28 #[.pointer (some ⟨x, 0, none⟩), wv] w (LineT w x base v (ls ++ [t])) := by
  obtain ⟨i0, hi, hz0, hz1, hz2⟩ := info_parts infoStr
  have HW := Lib.hid h
  have HL := Lib.hid hw
  have HV := Lib.hid hwv
  have HT := Lib.hid ht
  have hx := h.box.lt
  have hle := h.le
  obtain ⟨_, A0, c0, rfl, _, _, _⟩ := hw
  obtain ⟨_, A, c, rfl, hnc, hcm, _⟩ := sl_of_own h.own
  unfold maxLen at hcm
  clear h hwv ht
  go_enter Tryd.func28, Tryd.ntmps28
  go_wp2_with fail
  have hd0 := (Below.refl w.heap.size w).drew
  have hW0 := Wr.below HW.out hd0
  have hL0 := HL.out.below hd0 HV.out
  have hV0 : Low w.drew.heap.size (.slice A0 ws.length c0) := HV.out
  have hB0 : Below base w w.drew := (Below.refl _ w).drew
  have hT0 := turned_of_below (S := LineS x (.slice A ls.length c)) hd0
  clear hd0
  refine wp_region_held_drew (S := fun _ => True) (by kernel_rfl) trivial (fun hHeld => ?_)
  generalize w.drew = wd at hW0 hL0 hV0 hB0 hT0 ⊢
  refine wpAnyH_take (i := 0) (v := ?_) rfl (by kernel_rfl) (by kernel_rfl) (by kernel_rfl) (fun _ _ _ h => h) (Or.inl ⟨by rfl, ?_⟩) (by assumption) ?_
  rotate_left
  · (intro w' hSw; go_simp; try with_reducible rfl)
  try simp only [Act.put]
  refine wpAnyH_take (i := 1) (v := ?_) rfl (by kernel_rfl) (by kernel_rfl) (by kernel_rfl) (fun _ _ _ h => h) (Or.inl ⟨by rfl, ?_⟩) (by assumption) ?_
  rotate_left
  · (intro w' hSw; go_simp; try with_reducible rfl)
  try simp only [Act.put]
  refine wpAnyH_take (i := 2) (v := ?_) rfl (by kernel_rfl) (by kernel_rfl) (by kernel_rfl) (fun _ _ _ h => h) (Or.inl ⟨by rfl, ?_⟩) (by assumption) ?_
  rotate_left
  · (intro w' hSw; go_simp; try with_reducible rfl)
  try simp only [Act.put]
  refine wpAnyH_take (i := 3) (v := ?_) rfl (by kernel_rfl) (by kernel_rfl) (by kernel_rfl) (fun _ _ _ h => h) (Or.inl ⟨by rfl, ?_⟩) (by assumption) ?_
  rotate_left
  · (intro w' hSw; go_simp; try with_reducible rfl)
  try simp only [Act.put]
  refine wpAnyH_take (i := 5) (v := ?_) rfl (by kernel_rfl) (by kernel_rfl) (by kernel_rfl) (fun _ _ _ h => h) (Or.inl ⟨by rfl, ?_⟩) (by assumption) ?_
  rotate_left
  · (intro w' hSw; go_simp; try with_reducible rfl)
  try simp only [Act.put]
  refine wpAnyH_ready (rs := [4, 6]) (by kernel_rfl) (by simp) ?_
  refine AllReadyH.cons rfl (fun K hK => ?_) (AllReadyH.cons rfl (fun K hK => ?_) (AllReadyH.nil))
  · have hway : True := trivial
    have x0 := Box.cell (Wr.box hW0) 0 rfl
    go_simp
    refine hK.out _ _ trivial (fun hHeld1 => ?_)
    clear hK K
    try simp only [Act.put]
    refine wpAnyH_ready (rs := [6]) (by kernel_rfl) (by simp) ?_
    refine AllReadyH.cons rfl (fun K hK => ?_) (AllReadyH.nil)
    go_simp
    go_at_call 50
    refine (joinIs _ ws ⟨#[32]⟩ _ hL0 hV0 hN (by rw [HT.out]; exact hlen) t HT.out).mono ?_
    rintro e w1 ⟨rfl, hb1⟩
    have hW1 := Wr.below hW0 hb1
    have hB1 : Below base w w1 := hB0.trans (hb1.mono (Nat.le_trans (Wr.le hW0) (Nat.le_of_lt (Box.lt (Wr.box hW0)))))
    have hT1 := hT0.trans (turned_of_below hb1)
    clear hb1
    go_wp2_with fail
    refine hK.out _ _ trivial (fun hHeld2 => ?_)
    clear hK K
    try simp only [Act.put]
    refine wpAnyH_ready (rs := [7]) (by kernel_rfl) (by simp) ?_
    refine AllReadyH.cons rfl (fun K hK => ?_) (AllReadyH.nil)
    have hW2 := Wr.below hW1 (Below.new (w := w1) (.cells #[.string t] 9))
    have hS2 := sl_one w1 t 9
    have hB2 : Below base w (w1.alloc (.cells #[.string t] 9)) := hB1.alloc (Nat.le_trans (Wr.le hW1) (Nat.le_of_lt (Box.lt (Wr.box hW1)))) _
    have hT2 := hT1.trans (turned_of_below (Below.new (w := w1) (.cells #[.string t] 9)))
    go_simp
    refine hK.out _ _ trivial (fun hHeld3 => ?_)
    clear hK K
    try simp only [Act.put]
    try (change wpAnyH _ _ _ _ _ _ _ _ (w1.alloc (.cells #[.string t] 9)))
    generalize w1.alloc (.cells #[.string t] 9) = wa at hW2 hS2 hB2 hT2 ⊢
    refine wpAnyH_ready (rs := [8]) (by kernel_rfl) (by simp) ?_
    refine AllReadyH.cons rfl (fun K hK => ?_) (AllReadyH.nil)
    have hO := Wr.own hW2
    have hwl := Box.lt (Wr.box hW2)
    refine step_append_fresh _ (by rfl) _ _ _ (by rfl) base 9 i0 _ 1 16 Tryd.underlying61 hi hz0 hz1 hz2 rfl (by omega) (.slice A ls.length c) ls.length _ (by rfl) hO (.slice (some ⟨w1.heap.size, 0, none⟩) 1 1) 1 [.string t] (by rfl) hS2 (by simp [Value.oneCell']) (by unfold maxLen; omega) (by omega) (by omega) ?_
    intro A2 cap2 w2 hown2 hg2 hloc2
    refine hK.out _ _ trivial (fun hHeld4 => ?_)
    clear hK K
    try simp only [Act.put]
    refine wpAnyH_take (i := 9) (v := ?_) rfl (by kernel_rfl) (by kernel_rfl) (by kernel_rfl) (fun _ _ _ h => h) (Or.inl ⟨by rfl, ?_⟩) (by assumption) ?_
    rotate_left
    · (intro w' hSw; go_simp; try with_reducible rfl)
    try simp only [Act.put]
    refine wpAnyH_take (i := 10) (v := ?_) rfl (by kernel_rfl) (by kernel_rfl) (by kernel_rfl) (fun _ _ _ h => h) (Or.inl ⟨by rfl, ?_⟩) (by assumption) ?_
    rotate_left
    · (intro w' hSw; go_simp; try with_reducible rfl)
    try simp only [Act.put]
    refine wpAnyH_ready (rs := [11]) (by kernel_rfl) (by simp) ?_
    refine AllReadyH.cons rfl (fun K hK => ?_) (AllReadyH.nil)
    obtain ⟨hbx, hFin⟩ := Wr.more hW2 hB2 hown2 hg2 hloc2
    have p0 := Box.cell hbx 0 rfl
    have q0 := Box.open_ hbx 0
    go_simp
    refine hK.out _ _ trivial (fun hHeld5 => ?_)
    clear hK K
    try simp only [Act.put]
    refine wpAnyH_done (by kernel_rfl) ?_ _
    go_simp
    go_wp2
    exact ⟨rfl, .tuple #[], by simp [results, Tryd.results28, go_sem], rfl, hFin.1, hFin.2, turned_setCell (turned_grown hT2 hg2 (fun b e => Or.inl (Or.inr e))) (p := ⟨x, 0, none⟩) (Or.inl rfl) _⟩
  · have hway : True := trivial
    go_simp
    go_at_call 50
    refine (joinIs _ ws ⟨#[32]⟩ _ hL0 hV0 hN (by rw [HT.out]; exact hlen) t HT.out).mono ?_
    rintro e w1 ⟨rfl, hb1⟩
    have hW1 := Wr.below hW0 hb1
    have hB1 : Below base w w1 := hB0.trans (hb1.mono (Nat.le_trans (Wr.le hW0) (Nat.le_of_lt (Box.lt (Wr.box hW0)))))
    have hT1 := hT0.trans (turned_of_below hb1)
    clear hb1
    go_wp2_with fail
    refine hK.out _ _ trivial (fun hHeld1 => ?_)
    clear hK K
    try simp only [Act.put]
    refine wpAnyH_ready (rs := [4, 7]) (by kernel_rfl) (by simp) ?_
    refine AllReadyH.cons rfl (fun K hK => ?_) (AllReadyH.cons rfl (fun K hK => ?_) (AllReadyH.nil))
    · have hway : True := trivial
      have x0 := Box.cell (Wr.box hW1) 0 rfl
      go_simp
      refine hK.out _ _ trivial (fun hHeld2 => ?_)
      clear hK K
      try simp only [Act.put]
      refine wpAnyH_ready (rs := [7]) (by kernel_rfl) (by simp) ?_
      refine AllReadyH.cons rfl (fun K hK => ?_) (AllReadyH.nil)
      have hW2 := Wr.below hW1 (Below.new (w := w1) (.cells #[.string t] 9))
      have hS2 := sl_one w1 t 9
      have hB2 : Below base w (w1.alloc (.cells #[.string t] 9)) := hB1.alloc (Nat.le_trans (Wr.le hW1) (Nat.le_of_lt (Box.lt (Wr.box hW1)))) _
      have hT2 := hT1.trans (turned_of_below (Below.new (w := w1) (.cells #[.string t] 9)))
      go_simp
      refine hK.out _ _ trivial (fun hHeld3 => ?_)
      clear hK K
      try simp only [Act.put]
      try (change wpAnyH _ _ _ _ _ _ _ _ (w1.alloc (.cells #[.string t] 9)))
      generalize w1.alloc (.cells #[.string t] 9) = wa at hW2 hS2 hB2 hT2 ⊢
      refine wpAnyH_ready (rs := [8]) (by kernel_rfl) (by simp) ?_
      refine AllReadyH.cons rfl (fun K hK => ?_) (AllReadyH.nil)
      have hO := Wr.own hW2
      have hwl := Box.lt (Wr.box hW2)
      refine step_append_fresh _ (by rfl) _ _ _ (by rfl) base 9 i0 _ 1 16 Tryd.underlying61 hi hz0 hz1 hz2 rfl (by omega) (.slice A ls.length c) ls.length _ (by rfl) hO (.slice (some ⟨w1.heap.size, 0, none⟩) 1 1) 1 [.string t] (by rfl) hS2 (by simp [Value.oneCell']) (by unfold maxLen; omega) (by omega) (by omega) ?_
      intro A2 cap2 w2 hown2 hg2 hloc2
      refine hK.out _ _ trivial (fun hHeld4 => ?_)
      clear hK K
      try simp only [Act.put]
      refine wpAnyH_take (i := 9) (v := ?_) rfl (by kernel_rfl) (by kernel_rfl) (by kernel_rfl) (fun _ _ _ h => h) (Or.inl ⟨by rfl, ?_⟩) (by assumption) ?_
      rotate_left
      · (intro w' hSw; go_simp; try with_reducible rfl)
      try simp only [Act.put]
      refine wpAnyH_take (i := 10) (v := ?_) rfl (by kernel_rfl) (by kernel_rfl) (by kernel_rfl) (fun _ _ _ h => h) (Or.inl ⟨by rfl, ?_⟩) (by assumption) ?_
      rotate_left
      · (intro w' hSw; go_simp; try with_reducible rfl)
      try simp only [Act.put]
      refine wpAnyH_ready (rs := [11]) (by kernel_rfl) (by simp) ?_
      refine AllReadyH.cons rfl (fun K hK => ?_) (AllReadyH.nil)
      obtain ⟨hbx, hFin⟩ := Wr.more hW2 hB2 hown2 hg2 hloc2
      have p0 := Box.cell hbx 0 rfl
      have q0 := Box.open_ hbx 0
      go_simp
      refine hK.out _ _ trivial (fun hHeld5 => ?_)
      clear hK K
      try simp only [Act.put]
      refine wpAnyH_done (by kernel_rfl) ?_ _
      go_simp
      go_wp2
      exact ⟨rfl, .tuple #[], by simp [results, Tryd.results28, go_sem], rfl, hFin.1, hFin.2, turned_setCell (turned_grown hT2 hg2 (fun b e => Or.inl (Or.inr e))) (p := ⟨x, 0, none⟩) (Or.inl rfl) _⟩
    · have hway : True := trivial
      have hW2 := Wr.below hW1 (Below.new (w := w1) (.cells #[.string t] 9))
      have hS2 := sl_one w1 t 9
      have hB2 : Below base w (w1.alloc (.cells #[.string t] 9)) := hB1.alloc (Nat.le_trans (Wr.le hW1) (Nat.le_of_lt (Box.lt (Wr.box hW1)))) _
      have hT2 := hT1.trans (turned_of_below (Below.new (w := w1) (.cells #[.string t] 9)))
      go_simp
      refine hK.out _ _ trivial (fun hHeld2 => ?_)
      clear hK K
      try simp only [Act.put]
      try (change wpAnyH _ _ _ _ _ _ _ _ (w1.alloc (.cells #[.string t] 9)))
      generalize w1.alloc (.cells #[.string t] 9) = wa at hW2 hS2 hB2 hT2 ⊢
      refine wpAnyH_ready (rs := [4]) (by kernel_rfl) (by simp) ?_
      refine AllReadyH.cons rfl (fun K hK => ?_) (AllReadyH.nil)
      have x0 := Box.cell (Wr.box hW2) 0 rfl
      go_simp
      refine hK.out _ _ trivial (fun hHeld3 => ?_)
      clear hK K
      try simp only [Act.put]
      refine wpAnyH_ready (rs := [8]) (by kernel_rfl) (by simp) ?_
      refine AllReadyH.cons rfl (fun K hK => ?_) (AllReadyH.nil)
      have hO := Wr.own hW2
      have hwl := Box.lt (Wr.box hW2)
      refine step_append_fresh _ (by rfl) _ _ _ (by rfl) base 9 i0 _ 1 16 Tryd.underlying61 hi hz0 hz1 hz2 rfl (by omega) (.slice A ls.length c) ls.length _ (by rfl) hO (.slice (some ⟨w1.heap.size, 0, none⟩) 1 1) 1 [.string t] (by rfl) hS2 (by simp [Value.oneCell']) (by unfold maxLen; omega) (by omega) (by omega) ?_
      intro A2 cap2 w2 hown2 hg2 hloc2
      refine hK.out _ _ trivial (fun hHeld4 => ?_)
      clear hK K
      try simp only [Act.put]
      refine wpAnyH_take (i := 9) (v := ?_) rfl (by kernel_rfl) (by kernel_rfl) (by kernel_rfl) (fun _ _ _ h => h) (Or.inl ⟨by rfl, ?_⟩) (by assumption) ?_
      rotate_left
      · (intro w' hSw; go_simp; try with_reducible rfl)
      try simp only [Act.put]
      refine wpAnyH_take (i := 10) (v := ?_) rfl (by kernel_rfl) (by kernel_rfl) (by kernel_rfl) (fun _ _ _ h => h) (Or.inl ⟨by rfl, ?_⟩) (by assumption) ?_
      rotate_left
      · (intro w' hSw; go_simp; try with_reducible rfl)
      try simp only [Act.put]
      refine wpAnyH_ready (rs := [11]) (by kernel_rfl) (by simp) ?_
      refine AllReadyH.cons rfl (fun K hK => ?_) (AllReadyH.nil)
      obtain ⟨hbx, hFin⟩ := Wr.more hW2 hB2 hown2 hg2 hloc2
      have p0 := Box.cell hbx 0 rfl
      have q0 := Box.open_ hbx 0
      go_simp
      refine hK.out _ _ trivial (fun hHeld5 => ?_)
      clear hK K
      try simp only [Act.put]
      refine wpAnyH_done (by kernel_rfl) ?_ _
      go_simp
      go_wp2
      exact ⟨rfl, .tuple #[], by simp [results, Tryd.results28, go_sem], rfl, hFin.1, hFin.2, turned_setCell (turned_grown hT2 hg2 (fun b e => Or.inl (Or.inr e))) (p := ⟨x, 0, none⟩) (Or.inl rfl) _⟩

theorem line_any (x base : Nat) (v : Value) (ls : List ByteArray) (wv : Value) (ws : List ByteArray) (t : ByteArray) (w : World) (h : Wr w x base v ls) (hw : Sl w 1 wv ws.length (scs ws)) (hwv : Low w.heap.size wv)
    (hn : ls.length ≤ 4000000) (hN : ws.length ≤ 4000000) (hlen : t.size ≤ 140737488355328) (ht : joinB ws ⟨#[32]⟩ = t) :
    Calls Tryd.prog 28 #[.pointer (some ⟨x, 0, none⟩), wv] w (LinePost w x base (ls ++ [t])) :=
  (lineT_any x base v ls wv ws t w h hw hwv hn hN hlen ht).mono fun _ _ ⟨h1, h2, h3, _⟩ => ⟨h1, h2, h3⟩

set_option maxHeartbeats 400000 in
theorem text_wr (x base : Nat) (v : Value) (ls : List ByteArray) (t : ByteArray) (w : World) (h : Wr w x base v ls)
    (hn : ls.length ≤ 4000000) (hlen : t.size ≤ 140737488355328) (ht : joinB ls ⟨#[10]⟩ = t) :
    Calls Tryd.prog 33 #[.pointer (some ⟨x, 0, none⟩)] w fun e w' => e = .returned (.string t) ∧ Below w.heap.size w w' := by
  have g0 := h.box.cell 0 rfl
  have HS := Lib.hid (sl_of_own h.own)
  have HV := Lib.hid (low_of_own h.own)
  have HT := Lib.hid ht
  obtain ⟨_, A, c, rfl, hnc, hcm, _⟩ := sl_of_own h.own
  clear h ht
  go_enter Tryd.func33, Tryd.ntmps33
  go_wp2_with fail
  refine (joinIs _ ls ⟨#[10]⟩ _ HS.out HV.out (by omega) (by rw [HT.out]; exact hlen) t HT.out).mono ?_
  rintro e w1 ⟨rfl, hb1⟩
  go_wp2
  go_ret
  exact ⟨rfl, hb1⟩
end Go.Proofs.YthcfiobnnceomaaDoor
