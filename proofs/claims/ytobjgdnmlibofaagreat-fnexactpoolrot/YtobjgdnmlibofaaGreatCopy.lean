/-
  Texts joined into one.
-/
import Derived.Test.YtobjgdnmlibofaaGreatStore
import Derived.Test.YtobjgdnmlibofaaGreatData
import Derived.Test.YtobjgdnmlibofaaGreatDiskA
import Derived.Deep.CutRange
import Derived.Test.YtobjgdnmlibofaaGreatApp

/-
  A struct put together out of aggregates.
-/
set_option maxRecDepth 100000
namespace Go.Proofs.Palim
open Go Go.RowKit
section
variable {P : Program} {w : World}
theorem exec_build_cs {evl : Operand → Value} {o : Oper} {ty : TypeId} {fs : Array (Nat × Operand)} (ho : o.op = .build ty fs) (cells : Array Value) (hb : P.built ty (fs.toList.map fun f => (f.1, evl f.2)) = some cells) :
    (execOp evl o).run P w = .ok (.value (.agg cells)) w := by
  have hr := run_build (P := P) w ty (fs.map fun f => (f.1, evl f.2)) cells (by rw [Array.toList_map]; exact hb)
  unfold execOp
  simp only [ho, Sem.run_bind]
  rw [hr]
  rfl
theorem wpList_build_cs {ops : Array Oper} {rest : List Oper} {o : Oper} {a : Act} {Q : Exit → Act → World → Prop} (hgd : o.guard = none) {ty : TypeId} {fs : Array (Nat × Operand)} (ho : o.op = .build ty fs) (cells : Array Value) (hb : P.built ty (fs.toList.map fun f => (f.1, a.eval f.2)) = some cells)
    (h : wpList P ops Q rest (a.put o.dst (.agg cells)) w) : wpList P ops Q (o :: rest) a w :=
  wpList_plain hgd fun _ hK => by
    have hr := exec_build_cs (P := P) (w := w) (evl := a.eval) ho cells hb
    unfold Oper.wp
    rw [hr]
    exact hK _ _ h
end
end Go.Proofs.Palim
namespace Go.Proofs.YtobjgdnmlibofaaGreat
open Go.ChangeShapes Go.WideShapes Go.ChangeAt Go.RowKit Go.Proofs.Palim
theorem built_pool (d0 d1 dl k0 k1 k2 k3 k4 k5 k6 : Value) (u : Bool) : Tryz.prog.built 46 [(0, .agg #[d0, d1, dl]), (1, .agg #[k0, k1, k2, k3, k4, k5, k6]), (2, .bool u)] = some #[d0, d1, dl, k0, k1, k2, k3, k4, k5, k6, .bool u] := by kernel_rfl
theorem built_poolD (d0 d1 dl : Value) : Tryz.prog.built 46 [(0, .agg #[d0, d1, dl])] = some #[d0, d1, dl, .int .i64 0, .slice none 0 0, .slice none 0 0, .slice none 0 0, .bool false, .slice none 0 0, .int .i64 0, .bool false] := by kernel_rfl
theorem built_pool0 : Tryz.prog.built 46 [] = some #[.slice none 0 0, .slice none 0 0, .slice none 0 0, .int .i64 0, .slice none 0 0, .slice none 0 0, .slice none 0 0, .bool false, .slice none 0 0, .int .i64 0, .bool false] := by kernel_rfl
end Go.Proofs.YtobjgdnmlibofaaGreat

/-
  slices.Clone at lists of sets, entries, pointers and numbers: the same cells in memory of the call's own.
-/
set_option maxRecDepth 100000
namespace Go.Proofs.YtobjgdnmlibofaaGreat
open Go.ChangeShapes Go.WideShapes Go.ChangeAt Go.RowKit Go.Proofs.Palim

theorem ics_oneK (ls : List Int) : ∀ u ∈ ics ls, u.oneCell' = true := by
  intro u hu
  obtain ⟨x, _, rfl⟩ := List.mem_map.1 hu
  rfl
theorem ecs_oneK (ls : List EntM) : ∀ u ∈ ecs ls, u.oneCell' = true := by
  intro u hu
  obtain ⟨x, _, hu⟩ := List.mem_flatMap.1 hu
  simp [ec] at hu
  rcases hu with rfl | rfl | rfl <;> rfl
theorem ccs_oneK (ls : List CSetM) : ∀ u ∈ ccs ls, u.oneCell' = true := by
  intro u hu
  obtain ⟨x, _, hu⟩ := List.mem_flatMap.1 hu
  exact cc_one x u hu

set_option maxHeartbeats 1000000 in
theorem cloneSet_any (v : Value) (ls : List CSetM) (w : World) (h : Sl w 31 v ls.length (ccs ls)) (hl : Low w.heap.size v) (hn : ls.length ≤ 1048576) :
    Calls Tryz.prog 93 #[v] w (Cloned w 89 31 ls.length (ccs ls)) := by
  obtain ⟨i0, hi, hz0, hz1, hz2⟩ := info_parts infoCSet
  have q : ∀ (w : World) (a : Option Addr) (n c n' c' : Nat), (binOp .eql 40 (.slice a n c) (.slice none n' c')).run Tryz.prog w = .ok (.bool a.isNone) w := fun w a n c n' c' => Lib.run_eql_slice_nil w _ _ a n c n' c' Tryz.underlying40
  obtain ⟨n, HN⟩ : ∃ n, Hid (ls.length = n) := ⟨_, Lib.hid rfl⟩
  rw [HN.out] at h hn ⊢
  have HS := Lib.hid h
  have HL := Lib.hid hl
  obtain ⟨hlen, A, c, rfl, hnc, hcm, hcell⟩ := h
  clear hl
  cases A with
  | none =>
    have hz : n = 0 := hcell.resolve_right (by rintro ⟨_, _, h, _⟩; cases h)
    subst hz
    have HE := Lib.hid (show ccs ls = [] from List.length_eq_zero_iff.1 (by simpa using hlen))
    clear hlen hcell
    go_enter Tryz.func93, Tryz.ntmps93
    go_wp2
    go_ret
    exact ⟨none, 0, rfl, by rw [HE.out]; exact ⟨rfl, .inl ⟨rfl, rfl⟩⟩, Below.refl _ _⟩
  | some a =>
    have HM := Lib.hid hcm
    clear hlen hcell hnc hcm
    go_enter Tryz.func93, Tryz.ntmps93
    go_wp2_with (first
      | (at_builtin; refine wpList_append_fresh _ rfl _ _ 40 rfl w.heap.size 89 i0 _ 31 264 Tryz.underlying40 hi hz0 hz1 hz2 rfl (by omega) (.slice (some ⟨w.heap.size, 0, none⟩) 0 0) 0 [] rfl (own_empty (At.new rfl) (Nat.le_refl _))
          (.slice (some a) n c) n (ccs ls) rfl (HS.out.below ((Below.refl _ w).alloc (Nat.le_refl _) _) HL.out) (ccs_oneK _) (by unfold maxLen; omega) (by omega) (by simp) ?_))
    intro A' cap w1 hown hg _
    obtain ⟨hown', hb⟩ := clone_done hown hg
    have HO := Lib.hid hown'
    have HB := Lib.hid hb
    clear hown hg hown' hb
    go_wp2
    go_ret
    exact ⟨A', cap, rfl, HO.out, HB.out⟩

set_option maxHeartbeats 1000000 in
theorem cloneEnt_any (v : Value) (ls : List EntM) (w : World) (h : Sl w 3 v ls.length (ecs ls)) (hl : Low w.heap.size v) (hn : ls.length ≤ 1048576) :
    Calls Tryz.prog 94 #[v] w (Cloned w 126 3 ls.length (ecs ls)) := by
  obtain ⟨i0, hi, hz0, hz1, hz2⟩ := info_parts infoEnt
  have q : ∀ (w : World) (a : Option Addr) (n c n' c' : Nat), (binOp .eql 41 (.slice a n c) (.slice none n' c')).run Tryz.prog w = .ok (.bool a.isNone) w := fun w a n c n' c' => Lib.run_eql_slice_nil w _ _ a n c n' c' Tryz.underlying41
  obtain ⟨n, HN⟩ : ∃ n, Hid (ls.length = n) := ⟨_, Lib.hid rfl⟩
  rw [HN.out] at h hn ⊢
  have HS := Lib.hid h
  have HL := Lib.hid hl
  obtain ⟨hlen, A, c, rfl, hnc, hcm, hcell⟩ := h
  clear hl
  cases A with
  | none =>
    have hz : n = 0 := hcell.resolve_right (by rintro ⟨_, _, h, _⟩; cases h)
    subst hz
    have HE := Lib.hid (show ecs ls = [] from List.length_eq_zero_iff.1 (by simpa using hlen))
    clear hlen hcell
    go_enter Tryz.func94, Tryz.ntmps94
    go_wp2
    go_ret
    exact ⟨none, 0, rfl, by rw [HE.out]; exact ⟨rfl, .inl ⟨rfl, rfl⟩⟩, Below.refl _ _⟩
  | some a =>
    have HM := Lib.hid hcm
    clear hlen hcell hnc hcm
    go_enter Tryz.func94, Tryz.ntmps94
    go_wp2_with (first
      | (at_builtin; refine wpList_append_fresh _ rfl _ _ 41 rfl w.heap.size 126 i0 _ 3 24 Tryz.underlying41 hi hz0 hz1 hz2 rfl (by omega) (.slice (some ⟨w.heap.size, 0, none⟩) 0 0) 0 [] rfl (own_empty (At.new rfl) (Nat.le_refl _))
          (.slice (some a) n c) n (ecs ls) rfl (HS.out.below ((Below.refl _ w).alloc (Nat.le_refl _) _) HL.out) (ecs_oneK _) (by unfold maxLen; omega) (by omega) (by simp) ?_))
    intro A' cap w1 hown hg _
    obtain ⟨hown', hb⟩ := clone_done hown hg
    have HO := Lib.hid hown'
    have HB := Lib.hid hb
    clear hown hg hown' hb
    go_wp2
    go_ret
    exact ⟨A', cap, rfl, HO.out, HB.out⟩

set_option maxHeartbeats 1000000 in
theorem clonePtr_any (v : Value) (ls : List PtrM) (w : World) (h : Sl w 3 v ls.length (pcs ls)) (hl : Low w.heap.size v) (hn : ls.length ≤ 1048576) :
    Calls Tryz.prog 95 #[v] w (Cloned w 86 3 ls.length (pcs ls)) := by
  obtain ⟨i0, hi, hz0, hz1, hz2⟩ := info_parts infoPtr
  have q : ∀ (w : World) (a : Option Addr) (n c n' c' : Nat), (binOp .eql 42 (.slice a n c) (.slice none n' c')).run Tryz.prog w = .ok (.bool a.isNone) w := fun w a n c n' c' => Lib.run_eql_slice_nil w _ _ a n c n' c' Tryz.underlying42
  obtain ⟨n, HN⟩ : ∃ n, Hid (ls.length = n) := ⟨_, Lib.hid rfl⟩
  rw [HN.out] at h hn ⊢
  have HS := Lib.hid h
  have HL := Lib.hid hl
  obtain ⟨hlen, A, c, rfl, hnc, hcm, hcell⟩ := h
  clear hl
  cases A with
  | none =>
    have hz : n = 0 := hcell.resolve_right (by rintro ⟨_, _, h, _⟩; cases h)
    subst hz
    have HE := Lib.hid (show pcs ls = [] from List.length_eq_zero_iff.1 (by simpa using hlen))
    clear hlen hcell
    go_enter Tryz.func95, Tryz.ntmps95
    go_wp2
    go_ret
    exact ⟨none, 0, rfl, by rw [HE.out]; exact ⟨rfl, .inl ⟨rfl, rfl⟩⟩, Below.refl _ _⟩
  | some a =>
    have HM := Lib.hid hcm
    clear hlen hcell hnc hcm
    go_enter Tryz.func95, Tryz.ntmps95
    go_wp2_with (first
      | (at_builtin; refine wpList_append_fresh _ rfl _ _ 42 rfl w.heap.size 86 i0 _ 3 24 Tryz.underlying42 hi hz0 hz1 hz2 rfl (by omega) (.slice (some ⟨w.heap.size, 0, none⟩) 0 0) 0 [] rfl (own_empty (At.new rfl) (Nat.le_refl _))
          (.slice (some a) n c) n (pcs ls) rfl (HS.out.below ((Below.refl _ w).alloc (Nat.le_refl _) _) HL.out) (pcs_one _) (by unfold maxLen; omega) (by omega) (by simp) ?_))
    intro A' cap w1 hown hg _
    obtain ⟨hown', hb⟩ := clone_done hown hg
    have HO := Lib.hid hown'
    have HB := Lib.hid hb
    clear hown hg hown' hb
    go_wp2
    go_ret
    exact ⟨A', cap, rfl, HO.out, HB.out⟩

set_option maxHeartbeats 1000000 in
theorem cloneInt_any (v : Value) (ls : List Int) (w : World) (h : Sl w 1 v ls.length (ics ls)) (hl : Low w.heap.size v) (hn : ls.length ≤ 1048576) :
    Calls Tryz.prog 96 #[v] w (Cloned w 3 1 ls.length (ics ls)) := by
  obtain ⟨i0, hi, hz0, hz1, hz2⟩ := info_parts infoInt
  have q : ∀ (w : World) (a : Option Addr) (n c n' c' : Nat), (binOp .eql 30 (.slice a n c) (.slice none n' c')).run Tryz.prog w = .ok (.bool a.isNone) w := fun w a n c n' c' => Lib.run_eql_slice_nil w _ _ a n c n' c' Tryz.underlying30
  obtain ⟨n, HN⟩ : ∃ n, Hid (ls.length = n) := ⟨_, Lib.hid rfl⟩
  rw [HN.out] at h hn ⊢
  have HS := Lib.hid h
  have HL := Lib.hid hl
  obtain ⟨hlen, A, c, rfl, hnc, hcm, hcell⟩ := h
  clear hl
  cases A with
  | none =>
    have hz : n = 0 := hcell.resolve_right (by rintro ⟨_, _, h, _⟩; cases h)
    subst hz
    have HE := Lib.hid (show ics ls = [] from List.length_eq_zero_iff.1 (by simpa using hlen))
    clear hlen hcell
    go_enter Tryz.func96, Tryz.ntmps96
    go_wp2
    go_ret
    exact ⟨none, 0, rfl, by rw [HE.out]; exact ⟨rfl, .inl ⟨rfl, rfl⟩⟩, Below.refl _ _⟩
  | some a =>
    have HM := Lib.hid hcm
    clear hlen hcell hnc hcm
    go_enter Tryz.func96, Tryz.ntmps96
    go_wp2_with (first
      | (at_builtin; refine wpList_append_fresh _ rfl _ _ 30 rfl w.heap.size 3 i0 _ 1 8 Tryz.underlying30 hi hz0 hz1 hz2 rfl (by omega) (.slice (some ⟨w.heap.size, 0, none⟩) 0 0) 0 [] rfl (own_empty (At.new rfl) (Nat.le_refl _))
          (.slice (some a) n c) n (ics ls) rfl (HS.out.below ((Below.refl _ w).alloc (Nat.le_refl _) _) HL.out) (ics_oneK _) (by unfold maxLen; omega) (by omega) (by simp) ?_))
    intro A' cap w1 hown hg _
    obtain ⟨hown', hb⟩ := clone_done hown hg
    have HO := Lib.hid hown'
    have HB := Lib.hid hb
    clear hown hg hown' hb
    go_wp2
    go_ret
    exact ⟨A', cap, rfl, HO.out, HB.out⟩
end Go.Proofs.YtobjgdnmlibofaaGreat

/-
  A core, and a store, in memory of the call's own: impl's coreCopy and poolCopy, spec's l6Copy and l10Copy.
-/
set_option maxRecDepth 100000
namespace Go.Proofs.YtobjgdnmlibofaaGreat
open Go.ChangeShapes Go.WideShapes Go.ChangeAt Go.RowKit Go.Proofs.Palim

set_option maxHeartbeats 4000000 in
theorem coreCopy_any (vs vd vp vi : Value) (c : CoreM) (w : World) (h : CoreR w vs vd vp vi c) (hs : CoreShort c) :
    Calls Tryz.prog 44 #[cv c vs vd vp vi] w (NewCoreO w c) := by
  obtain ⟨A0, k0, A1, k1, A2, k2, A3, k3, rfl, rfl, rfl, rfl⟩ := h.forms
  obtain ⟨b1, b2, hsz, hB⟩ := box2 w #[.int .i64 c.txg, .slice A0 c.sets.length k0, .slice A1 c.ddt.length k1, .slice A2 c.parts.length k2, .bool c.dirty, .slice A3 c.safe.length k3, .int .i64 c.logn] #[.int .i64 0, .slice none 0 0, .slice none 0 0, .slice none 0 0, .bool false, .slice none 0 0, .int .i64 0] 44 44
  have X1 := Lib.hid (show Box _ _ [.int .i64 c.txg, .slice A0 c.sets.length k0, .slice A1 c.ddt.length k1, .slice A2 c.parts.length k2, .bool c.dirty, .slice A3 c.safe.length k3, .int .i64 c.logn] from b1)
  have X2 := Lib.hid (show Box _ _ [.int .i64 0, .slice none 0 0, .slice none 0 0, .slice none 0 0, .bool false, .slice none 0 0, .int .i64 0] from b2)
  have B0 := Lib.hid hB
  have HR := Lib.hid h
  have HS := Lib.hid hs
  have hx2 : w.heap.size + 1 < ((w.alloc (.cells #[.int .i64 c.txg, .slice A0 c.sets.length k0, .slice A1 c.ddt.length k1, .slice A2 c.parts.length k2, .bool c.dirty, .slice A3 c.safe.length k3, .int .i64 c.logn] 44)).alloc (.cells #[.int .i64 0, .slice none 0 0, .slice none 0 0, .slice none 0 0, .bool false, .slice none 0 0, .int .i64 0] 44)).heap.size := b2.lt
  clear b1 b2 hB hsz h hs
  go_enter Tryz.func44, Tryz.ntmps44
  go_upto_region 1 with fail
  obtain ⟨W, HWE⟩ : ∃ W, (w.alloc (.cells #[.int .i64 c.txg, .slice A0 c.sets.length k0, .slice A1 c.ddt.length k1, .slice A2 c.parts.length k2, .bool c.dirty, .slice A3 c.safe.length k3, .int .i64 c.logn] 44)).alloc (.cells #[.int .i64 0, .slice none 0 0, .slice none 0 0, .slice none 0 0, .bool false, .slice none 0 0, .int .i64 0] 44) = W := ⟨_, rfl⟩
  rw [HWE] at X1 X2 B0 hx2 ⊢
  clear HWE
  go_cut [] from 3 to 10 (fun wx => ∃ (E0 : Option Addr) (d0 : Nat) (E1 : Option Addr) (d1 : Nat), Hid (Box wx w.heap.size [.int .i64 c.txg, .slice E0 c.sets.length d0, .slice E1 c.ddt.length d1, .slice A2 c.parts.length k2, .bool c.dirty, .slice A3 c.safe.length k3, .int .i64 c.logn]) ∧ Hid (Box wx (w.heap.size + 1) [.int .i64 0, .slice none 0 0, .slice none 0 0, .slice none 0 0, .bool false, .slice none 0 0, .int .i64 0]) ∧ Hid (Below w.heap.size w wx) ∧ w.heap.size + 1 < wx.heap.size ∧ Hid (wx.ownsRow (w.heap.size + 1 + 1) 89 31 (.slice E0 c.sets.length d0) c.sets.length (ccs c.sets)) ∧ Hid (wx.ownsRow (w.heap.size + 1 + 1) 126 3 (.slice E1 c.ddt.length d1) c.ddt.length (ecs c.ddt)) ∧ Hid (∀ b, (Value.slice E0 c.sets.length d0).ownBlock = some b → (Value.slice E1 c.ddt.length d1).ownBlock = some b → False))
  case first =>
    refine wp_region_held_drew (S := fun _ => True) (by kernel_rfl) trivial (fun hHeld => ?_)
    have Y1 := Lib.hid X1.out.drew
    have Y2 := Lib.hid X2.out.drew
    have B1 := Lib.hid B0.out.drew
    have hx3 : w.heap.size + 1 < W.drew.heap.size := hx2
    clear X1 X2 B0 hx2 
    generalize W.drew = wd at hHeld Y1 Y2 B1 hx3 ⊢
    refine wpAnyH_take (i := 0) (v := ?_) rfl (by kernel_rfl) (by kernel_rfl) (by kernel_rfl) (fun _ _ _ h => h) (Or.inl ⟨by rfl, ?_⟩) (by assumption) ?_
    rotate_left
    · (intro w' hSw; go_simp; try with_reducible rfl)
    try simp only [Act.put]
    refine wpAnyH_take (i := 3) (v := ?_) rfl (by kernel_rfl) (by kernel_rfl) (by kernel_rfl) (fun _ _ _ h => h) (Or.inl ⟨by rfl, ?_⟩) (by assumption) ?_
    rotate_left
    · (intro w' hSw; go_simp; try with_reducible rfl)
    try simp only [Act.put]
    refine wpAnyH_ready (rs := [1, 4]) (by kernel_rfl) (by simp) ?_
    refine AllReadyH.cons rfl (fun K hK => ?_) (AllReadyH.cons rfl (fun K hK => ?_) (AllReadyH.nil))
    · have hway : True := trivial
      have q := Y1.out.cell 1 rfl
      go_simp
      refine hK.out _ _ trivial (fun hHeld1 => ?_)
      clear hK K
      try simp only [Act.put]
      clear q
      refine wpAnyH_ready (rs := [2, 4]) (by kernel_rfl) (by simp) ?_
      refine AllReadyH.cons rfl (fun K hK => ?_) (AllReadyH.cons rfl (fun K hK => ?_) (AllReadyH.nil))
      · have hway : True := trivial
        go_simp
        go_at_call 93
        refine (cloneSet_any _ c.sets _ (HR.out.s.below B1.out (fun b e => HR.out.ls b e)) (fun b e => Nat.lt_of_lt_of_le (HR.out.ls b e) B1.out.size) HS.out.s).mono ?_
        rintro e wt2 ⟨E0, d0, rfl, hown, hb⟩
        have O0 := Lib.hid (own_base hown (Nat.succ_le_of_lt hx3))
        have Z1 := Lib.hid (Y1.out.below hb Y1.out.lt)
        have Z2 := Lib.hid (Y2.out.below hb Y2.out.lt)
        have B2 := Lib.hid (B1.out.trans (hb.mono B1.out.size))
        have hx4 : w.heap.size + 1 < wt2.heap.size := Nat.lt_of_lt_of_le hx3 hb.size
        clear hb hown Y1 Y2 B1 hx3
        have Y1 := Z1
        have Y2 := Z2
        have B1 := B2
        have hx3 := hx4
        clear Z1 Z2 B2 hx4
        go_wp2_with fail
        refine hK.out _ _ trivial (fun hHeld2 => ?_)
        clear hK K
        try simp only [Act.put]
        refine wpAnyH_ready (rs := [4]) (by kernel_rfl) (by simp) ?_
        refine AllReadyH.cons rfl (fun K hK => ?_) (AllReadyH.nil)
        have q := Y1.out.cell 2 rfl
        go_simp
        refine hK.out _ _ trivial (fun hHeld3 => ?_)
        clear hK K
        try simp only [Act.put]
        clear q
        refine wpAnyH_take (i := 6) (v := ?_) rfl (by kernel_rfl) (by kernel_rfl) (by kernel_rfl) (fun _ _ _ h => h) (Or.inl ⟨by rfl, ?_⟩) (by assumption) ?_
        rotate_left
        · (intro w' hSw; go_simp; try with_reducible rfl)
        try simp only [Act.put]
        refine wpAnyH_ready (rs := [5]) (by kernel_rfl) (by simp) ?_
        refine AllReadyH.cons rfl (fun K hK => ?_) (AllReadyH.nil)
        go_simp
        go_at_call 94
        refine (cloneEnt_any _ c.ddt _ (HR.out.d.below B1.out (fun b e => HR.out.ld b e)) (fun b e => Nat.lt_of_lt_of_le (HR.out.ld b e) B1.out.size) HS.out.d).mono ?_
        rintro e wt4 ⟨E1, d1, rfl, hown, hb⟩
        have O1 := Lib.hid (own_base hown (Nat.succ_le_of_lt hx3))
        have U01 := Lib.hid (show ∀ b, (Value.slice E0 c.sets.length d0).ownBlock = some b → (Value.slice E1 c.ddt.length d1).ownBlock = some b → False from fun b e1 e2 => by have := (O0.out.lt b e1).2; have := (hown.lt b e2).1; omega)
        have O0n := Lib.hid (own_kept O0.out (fun b e => hb.block b (O0.out.lt b e).2))
        clear O0
        have O0 := O0n
        clear O0n
        have Z1 := Lib.hid (Y1.out.below hb Y1.out.lt)
        have Z2 := Lib.hid (Y2.out.below hb Y2.out.lt)
        have B2 := Lib.hid (B1.out.trans (hb.mono B1.out.size))
        have hx4 : w.heap.size + 1 < wt4.heap.size := Nat.lt_of_lt_of_le hx3 hb.size
        clear hb hown Y1 Y2 B1 hx3
        have Y1 := Z1
        have Y2 := Z2
        have B1 := B2
        have hx3 := hx4
        clear Z1 Z2 B2 hx4
        go_wp2_with fail
        refine hK.out _ _ trivial (fun hHeld4 => ?_)
        clear hK K
        try simp only [Act.put]
        refine wpAnyH_ready (rs := [7]) (by kernel_rfl) (by simp) ?_
        refine AllReadyH.cons rfl (fun K hK => ?_) (AllReadyH.nil)
        have c := Y1.out.cell 1 rfl
        have f := Y1.out.open_ 1
        go_simp
        refine hK.out _ _ trivial (fun hHeld5 => ?_)
        clear hK K
        try simp only [Act.put]
        clear c f
        have P1 := putAt_setCell wt4 w.heap.size 1 (.slice E0 c.sets.length d0)
        have Z1 := Lib.hid (show Box (wt4.setCell ⟨w.heap.size, 1, none⟩ (.slice E0 c.sets.length d0)) w.heap.size [.int .i64 c.txg, .slice E0 c.sets.length d0, .slice A1 c.ddt.length k1, .slice A2 c.parts.length k2, .bool c.dirty, .slice A3 c.safe.length k3, .int .i64 c.logn] from Y1.out.set 1 (.slice E0 c.sets.length d0))
        have Z2 := Lib.hid (P1.box (by omega) Y2.out)
        have B2 := Lib.hid (P1.below B1.out (Nat.le_refl _))
        have hx4 : w.heap.size + 1 < (wt4.setCell ⟨w.heap.size, 1, none⟩ (.slice E0 c.sets.length d0)).heap.size := by rw [P1.size]; exact hx3
        have O0n := Lib.hid (own_kept O0.out (w' := wt4.setCell ⟨w.heap.size, 1, none⟩ (.slice E0 c.sets.length d0)) (fun b e => P1.block b (by have := (O0.out.lt b e).1; omega)))
        have O1n := Lib.hid (own_kept O1.out (w' := wt4.setCell ⟨w.heap.size, 1, none⟩ (.slice E0 c.sets.length d0)) (fun b e => P1.block b (by have := (O1.out.lt b e).1; omega)))
        clear P1 Y1 Y2 B1 hx3 O0 O1
        generalize wt4.setCell ⟨w.heap.size, 1, none⟩ (.slice E0 c.sets.length d0) = ws5 at hHeld5 Z1 Z2 B2 hx4 O0n O1n ⊢
        have Y1 := Z1
        have Y2 := Z2
        have B1 := B2
        have hx3 := hx4
        clear Z1 Z2 B2 hx4
        have O0 := O0n
        clear O0n
        have O1 := O1n
        clear O1n
        refine wpAnyH_take (i := 8) (v := ?_) rfl (by kernel_rfl) (by kernel_rfl) (by kernel_rfl) (fun _ _ _ h => h) (Or.inl ⟨by rfl, ?_⟩) (by assumption) ?_
        rotate_left
        · (intro w' hSw; go_simp; try with_reducible rfl)
        try simp only [Act.put]
        refine wpAnyH_ready (rs := [9]) (by kernel_rfl) (by simp) ?_
        refine AllReadyH.cons rfl (fun K hK => ?_) (AllReadyH.nil)
        have c := Y1.out.cell 2 rfl
        have f := Y1.out.open_ 2
        go_simp
        refine hK.out _ _ trivial (fun hHeld6 => ?_)
        clear hK K
        try simp only [Act.put]
        clear c f
        have P1 := putAt_setCell ws5 w.heap.size 2 (.slice E1 c.ddt.length d1)
        have Z1 := Lib.hid (show Box (ws5.setCell ⟨w.heap.size, 2, none⟩ (.slice E1 c.ddt.length d1)) w.heap.size [.int .i64 c.txg, .slice E0 c.sets.length d0, .slice E1 c.ddt.length d1, .slice A2 c.parts.length k2, .bool c.dirty, .slice A3 c.safe.length k3, .int .i64 c.logn] from Y1.out.set 2 (.slice E1 c.ddt.length d1))
        have Z2 := Lib.hid (P1.box (by omega) Y2.out)
        have B2 := Lib.hid (P1.below B1.out (Nat.le_refl _))
        have hx4 : w.heap.size + 1 < (ws5.setCell ⟨w.heap.size, 2, none⟩ (.slice E1 c.ddt.length d1)).heap.size := by rw [P1.size]; exact hx3
        have O0n := Lib.hid (own_kept O0.out (w' := ws5.setCell ⟨w.heap.size, 2, none⟩ (.slice E1 c.ddt.length d1)) (fun b e => P1.block b (by have := (O0.out.lt b e).1; omega)))
        have O1n := Lib.hid (own_kept O1.out (w' := ws5.setCell ⟨w.heap.size, 2, none⟩ (.slice E1 c.ddt.length d1)) (fun b e => P1.block b (by have := (O1.out.lt b e).1; omega)))
        clear P1 Y1 Y2 B1 hx3 O0 O1
        generalize ws5.setCell ⟨w.heap.size, 2, none⟩ (.slice E1 c.ddt.length d1) = ws6 at hHeld6 Z1 Z2 B2 hx4 O0n O1n ⊢
        have Y1 := Z1
        have Y2 := Z2
        have B1 := B2
        have hx3 := hx4
        clear Z1 Z2 B2 hx4
        have O0 := O0n
        clear O0n
        have O1 := O1n
        clear O1n
        refine wpAnyH_done (by kernel_rfl) ?_ _
        go_simp
        go_wp2_with fail
        go_meet
        exact ⟨E0, d0, E1, d1, Y1, Y2, B1, hx3, O0, O1, U01⟩
      · have hway : True := trivial
        have q := Y1.out.cell 2 rfl
        go_simp
        refine hK.out _ _ trivial (fun hHeld2 => ?_)
        clear hK K
        try simp only [Act.put]
        clear q
        refine wpAnyH_ready (rs := [2]) (by kernel_rfl) (by simp) ?_
        refine AllReadyH.cons rfl (fun K hK => ?_) (AllReadyH.nil)
        go_simp
        go_at_call 93
        refine (cloneSet_any _ c.sets _ (HR.out.s.below B1.out (fun b e => HR.out.ls b e)) (fun b e => Nat.lt_of_lt_of_le (HR.out.ls b e) B1.out.size) HS.out.s).mono ?_
        rintro e wt3 ⟨E0, d0, rfl, hown, hb⟩
        have O0 := Lib.hid (own_base hown (Nat.succ_le_of_lt hx3))
        have Z1 := Lib.hid (Y1.out.below hb Y1.out.lt)
        have Z2 := Lib.hid (Y2.out.below hb Y2.out.lt)
        have B2 := Lib.hid (B1.out.trans (hb.mono B1.out.size))
        have hx4 : w.heap.size + 1 < wt3.heap.size := Nat.lt_of_lt_of_le hx3 hb.size
        clear hb hown Y1 Y2 B1 hx3
        have Y1 := Z1
        have Y2 := Z2
        have B1 := B2
        have hx3 := hx4
        clear Z1 Z2 B2 hx4
        go_wp2_with fail
        refine hK.out _ _ trivial (fun hHeld3 => ?_)
        clear hK K
        try simp only [Act.put]
        refine wpAnyH_take (i := 6) (v := ?_) rfl (by kernel_rfl) (by kernel_rfl) (by kernel_rfl) (fun _ _ _ h => h) (Or.inl ⟨by rfl, ?_⟩) (by assumption) ?_
        rotate_left
        · (intro w' hSw; go_simp; try with_reducible rfl)
        try simp only [Act.put]
        refine wpAnyH_ready (rs := [5]) (by kernel_rfl) (by simp) ?_
        refine AllReadyH.cons rfl (fun K hK => ?_) (AllReadyH.nil)
        go_simp
        go_at_call 94
        refine (cloneEnt_any _ c.ddt _ (HR.out.d.below B1.out (fun b e => HR.out.ld b e)) (fun b e => Nat.lt_of_lt_of_le (HR.out.ld b e) B1.out.size) HS.out.d).mono ?_
        rintro e wt4 ⟨E1, d1, rfl, hown, hb⟩
        have O1 := Lib.hid (own_base hown (Nat.succ_le_of_lt hx3))
        have U01 := Lib.hid (show ∀ b, (Value.slice E0 c.sets.length d0).ownBlock = some b → (Value.slice E1 c.ddt.length d1).ownBlock = some b → False from fun b e1 e2 => by have := (O0.out.lt b e1).2; have := (hown.lt b e2).1; omega)
        have O0n := Lib.hid (own_kept O0.out (fun b e => hb.block b (O0.out.lt b e).2))
        clear O0
        have O0 := O0n
        clear O0n
        have Z1 := Lib.hid (Y1.out.below hb Y1.out.lt)
        have Z2 := Lib.hid (Y2.out.below hb Y2.out.lt)
        have B2 := Lib.hid (B1.out.trans (hb.mono B1.out.size))
        have hx4 : w.heap.size + 1 < wt4.heap.size := Nat.lt_of_lt_of_le hx3 hb.size
        clear hb hown Y1 Y2 B1 hx3
        have Y1 := Z1
        have Y2 := Z2
        have B1 := B2
        have hx3 := hx4
        clear Z1 Z2 B2 hx4
        go_wp2_with fail
        refine hK.out _ _ trivial (fun hHeld4 => ?_)
        clear hK K
        try simp only [Act.put]
        refine wpAnyH_ready (rs := [7]) (by kernel_rfl) (by simp) ?_
        refine AllReadyH.cons rfl (fun K hK => ?_) (AllReadyH.nil)
        have c := Y1.out.cell 1 rfl
        have f := Y1.out.open_ 1
        go_simp
        refine hK.out _ _ trivial (fun hHeld5 => ?_)
        clear hK K
        try simp only [Act.put]
        clear c f
        have P1 := putAt_setCell wt4 w.heap.size 1 (.slice E0 c.sets.length d0)
        have Z1 := Lib.hid (show Box (wt4.setCell ⟨w.heap.size, 1, none⟩ (.slice E0 c.sets.length d0)) w.heap.size [.int .i64 c.txg, .slice E0 c.sets.length d0, .slice A1 c.ddt.length k1, .slice A2 c.parts.length k2, .bool c.dirty, .slice A3 c.safe.length k3, .int .i64 c.logn] from Y1.out.set 1 (.slice E0 c.sets.length d0))
        have Z2 := Lib.hid (P1.box (by omega) Y2.out)
        have B2 := Lib.hid (P1.below B1.out (Nat.le_refl _))
        have hx4 : w.heap.size + 1 < (wt4.setCell ⟨w.heap.size, 1, none⟩ (.slice E0 c.sets.length d0)).heap.size := by rw [P1.size]; exact hx3
        have O0n := Lib.hid (own_kept O0.out (w' := wt4.setCell ⟨w.heap.size, 1, none⟩ (.slice E0 c.sets.length d0)) (fun b e => P1.block b (by have := (O0.out.lt b e).1; omega)))
        have O1n := Lib.hid (own_kept O1.out (w' := wt4.setCell ⟨w.heap.size, 1, none⟩ (.slice E0 c.sets.length d0)) (fun b e => P1.block b (by have := (O1.out.lt b e).1; omega)))
        clear P1 Y1 Y2 B1 hx3 O0 O1
        generalize wt4.setCell ⟨w.heap.size, 1, none⟩ (.slice E0 c.sets.length d0) = ws5 at hHeld5 Z1 Z2 B2 hx4 O0n O1n ⊢
        have Y1 := Z1
        have Y2 := Z2
        have B1 := B2
        have hx3 := hx4
        clear Z1 Z2 B2 hx4
        have O0 := O0n
        clear O0n
        have O1 := O1n
        clear O1n
        refine wpAnyH_take (i := 8) (v := ?_) rfl (by kernel_rfl) (by kernel_rfl) (by kernel_rfl) (fun _ _ _ h => h) (Or.inl ⟨by rfl, ?_⟩) (by assumption) ?_
        rotate_left
        · (intro w' hSw; go_simp; try with_reducible rfl)
        try simp only [Act.put]
        refine wpAnyH_ready (rs := [9]) (by kernel_rfl) (by simp) ?_
        refine AllReadyH.cons rfl (fun K hK => ?_) (AllReadyH.nil)
        have c := Y1.out.cell 2 rfl
        have f := Y1.out.open_ 2
        go_simp
        refine hK.out _ _ trivial (fun hHeld6 => ?_)
        clear hK K
        try simp only [Act.put]
        clear c f
        have P1 := putAt_setCell ws5 w.heap.size 2 (.slice E1 c.ddt.length d1)
        have Z1 := Lib.hid (show Box (ws5.setCell ⟨w.heap.size, 2, none⟩ (.slice E1 c.ddt.length d1)) w.heap.size [.int .i64 c.txg, .slice E0 c.sets.length d0, .slice E1 c.ddt.length d1, .slice A2 c.parts.length k2, .bool c.dirty, .slice A3 c.safe.length k3, .int .i64 c.logn] from Y1.out.set 2 (.slice E1 c.ddt.length d1))
        have Z2 := Lib.hid (P1.box (by omega) Y2.out)
        have B2 := Lib.hid (P1.below B1.out (Nat.le_refl _))
        have hx4 : w.heap.size + 1 < (ws5.setCell ⟨w.heap.size, 2, none⟩ (.slice E1 c.ddt.length d1)).heap.size := by rw [P1.size]; exact hx3
        have O0n := Lib.hid (own_kept O0.out (w' := ws5.setCell ⟨w.heap.size, 2, none⟩ (.slice E1 c.ddt.length d1)) (fun b e => P1.block b (by have := (O0.out.lt b e).1; omega)))
        have O1n := Lib.hid (own_kept O1.out (w' := ws5.setCell ⟨w.heap.size, 2, none⟩ (.slice E1 c.ddt.length d1)) (fun b e => P1.block b (by have := (O1.out.lt b e).1; omega)))
        clear P1 Y1 Y2 B1 hx3 O0 O1
        generalize ws5.setCell ⟨w.heap.size, 2, none⟩ (.slice E1 c.ddt.length d1) = ws6 at hHeld6 Z1 Z2 B2 hx4 O0n O1n ⊢
        have Y1 := Z1
        have Y2 := Z2
        have B1 := B2
        have hx3 := hx4
        clear Z1 Z2 B2 hx4
        have O0 := O0n
        clear O0n
        have O1 := O1n
        clear O1n
        refine wpAnyH_done (by kernel_rfl) ?_ _
        go_simp
        go_wp2_with fail
        go_meet
        exact ⟨E0, d0, E1, d1, Y1, Y2, B1, hx3, O0, O1, U01⟩
    · have hway : True := trivial
      have q := Y1.out.cell 2 rfl
      go_simp
      refine hK.out _ _ trivial (fun hHeld1 => ?_)
      clear hK K
      try simp only [Act.put]
      clear q
      refine wpAnyH_ready (rs := [1]) (by kernel_rfl) (by simp) ?_
      refine AllReadyH.cons rfl (fun K hK => ?_) (AllReadyH.nil)
      have q := Y1.out.cell 1 rfl
      go_simp
      refine hK.out _ _ trivial (fun hHeld2 => ?_)
      clear hK K
      try simp only [Act.put]
      clear q
      refine wpAnyH_ready (rs := [2]) (by kernel_rfl) (by simp) ?_
      refine AllReadyH.cons rfl (fun K hK => ?_) (AllReadyH.nil)
      go_simp
      go_at_call 93
      refine (cloneSet_any _ c.sets _ (HR.out.s.below B1.out (fun b e => HR.out.ls b e)) (fun b e => Nat.lt_of_lt_of_le (HR.out.ls b e) B1.out.size) HS.out.s).mono ?_
      rintro e wt3 ⟨E0, d0, rfl, hown, hb⟩
      have O0 := Lib.hid (own_base hown (Nat.succ_le_of_lt hx3))
      have Z1 := Lib.hid (Y1.out.below hb Y1.out.lt)
      have Z2 := Lib.hid (Y2.out.below hb Y2.out.lt)
      have B2 := Lib.hid (B1.out.trans (hb.mono B1.out.size))
      have hx4 : w.heap.size + 1 < wt3.heap.size := Nat.lt_of_lt_of_le hx3 hb.size
      clear hb hown Y1 Y2 B1 hx3
      have Y1 := Z1
      have Y2 := Z2
      have B1 := B2
      have hx3 := hx4
      clear Z1 Z2 B2 hx4
      go_wp2_with fail
      refine hK.out _ _ trivial (fun hHeld3 => ?_)
      clear hK K
      try simp only [Act.put]
      refine wpAnyH_take (i := 6) (v := ?_) rfl (by kernel_rfl) (by kernel_rfl) (by kernel_rfl) (fun _ _ _ h => h) (Or.inl ⟨by rfl, ?_⟩) (by assumption) ?_
      rotate_left
      · (intro w' hSw; go_simp; try with_reducible rfl)
      try simp only [Act.put]
      refine wpAnyH_ready (rs := [5]) (by kernel_rfl) (by simp) ?_
      refine AllReadyH.cons rfl (fun K hK => ?_) (AllReadyH.nil)
      go_simp
      go_at_call 94
      refine (cloneEnt_any _ c.ddt _ (HR.out.d.below B1.out (fun b e => HR.out.ld b e)) (fun b e => Nat.lt_of_lt_of_le (HR.out.ld b e) B1.out.size) HS.out.d).mono ?_
      rintro e wt4 ⟨E1, d1, rfl, hown, hb⟩
      have O1 := Lib.hid (own_base hown (Nat.succ_le_of_lt hx3))
      have U01 := Lib.hid (show ∀ b, (Value.slice E0 c.sets.length d0).ownBlock = some b → (Value.slice E1 c.ddt.length d1).ownBlock = some b → False from fun b e1 e2 => by have := (O0.out.lt b e1).2; have := (hown.lt b e2).1; omega)
      have O0n := Lib.hid (own_kept O0.out (fun b e => hb.block b (O0.out.lt b e).2))
      clear O0
      have O0 := O0n
      clear O0n
      have Z1 := Lib.hid (Y1.out.below hb Y1.out.lt)
      have Z2 := Lib.hid (Y2.out.below hb Y2.out.lt)
      have B2 := Lib.hid (B1.out.trans (hb.mono B1.out.size))
      have hx4 : w.heap.size + 1 < wt4.heap.size := Nat.lt_of_lt_of_le hx3 hb.size
      clear hb hown Y1 Y2 B1 hx3
      have Y1 := Z1
      have Y2 := Z2
      have B1 := B2
      have hx3 := hx4
      clear Z1 Z2 B2 hx4
      go_wp2_with fail
      refine hK.out _ _ trivial (fun hHeld4 => ?_)
      clear hK K
      try simp only [Act.put]
      refine wpAnyH_ready (rs := [7]) (by kernel_rfl) (by simp) ?_
      refine AllReadyH.cons rfl (fun K hK => ?_) (AllReadyH.nil)
      have c := Y1.out.cell 1 rfl
      have f := Y1.out.open_ 1
      go_simp
      refine hK.out _ _ trivial (fun hHeld5 => ?_)
      clear hK K
      try simp only [Act.put]
      clear c f
      have P1 := putAt_setCell wt4 w.heap.size 1 (.slice E0 c.sets.length d0)
      have Z1 := Lib.hid (show Box (wt4.setCell ⟨w.heap.size, 1, none⟩ (.slice E0 c.sets.length d0)) w.heap.size [.int .i64 c.txg, .slice E0 c.sets.length d0, .slice A1 c.ddt.length k1, .slice A2 c.parts.length k2, .bool c.dirty, .slice A3 c.safe.length k3, .int .i64 c.logn] from Y1.out.set 1 (.slice E0 c.sets.length d0))
      have Z2 := Lib.hid (P1.box (by omega) Y2.out)
      have B2 := Lib.hid (P1.below B1.out (Nat.le_refl _))
      have hx4 : w.heap.size + 1 < (wt4.setCell ⟨w.heap.size, 1, none⟩ (.slice E0 c.sets.length d0)).heap.size := by rw [P1.size]; exact hx3
      have O0n := Lib.hid (own_kept O0.out (w' := wt4.setCell ⟨w.heap.size, 1, none⟩ (.slice E0 c.sets.length d0)) (fun b e => P1.block b (by have := (O0.out.lt b e).1; omega)))
      have O1n := Lib.hid (own_kept O1.out (w' := wt4.setCell ⟨w.heap.size, 1, none⟩ (.slice E0 c.sets.length d0)) (fun b e => P1.block b (by have := (O1.out.lt b e).1; omega)))
      clear P1 Y1 Y2 B1 hx3 O0 O1
      generalize wt4.setCell ⟨w.heap.size, 1, none⟩ (.slice E0 c.sets.length d0) = ws5 at hHeld5 Z1 Z2 B2 hx4 O0n O1n ⊢
      have Y1 := Z1
      have Y2 := Z2
      have B1 := B2
      have hx3 := hx4
      clear Z1 Z2 B2 hx4
      have O0 := O0n
      clear O0n
      have O1 := O1n
      clear O1n
      refine wpAnyH_take (i := 8) (v := ?_) rfl (by kernel_rfl) (by kernel_rfl) (by kernel_rfl) (fun _ _ _ h => h) (Or.inl ⟨by rfl, ?_⟩) (by assumption) ?_
      rotate_left
      · (intro w' hSw; go_simp; try with_reducible rfl)
      try simp only [Act.put]
      refine wpAnyH_ready (rs := [9]) (by kernel_rfl) (by simp) ?_
      refine AllReadyH.cons rfl (fun K hK => ?_) (AllReadyH.nil)
      have c := Y1.out.cell 2 rfl
      have f := Y1.out.open_ 2
      go_simp
      refine hK.out _ _ trivial (fun hHeld6 => ?_)
      clear hK K
      try simp only [Act.put]
      clear c f
      have P1 := putAt_setCell ws5 w.heap.size 2 (.slice E1 c.ddt.length d1)
      have Z1 := Lib.hid (show Box (ws5.setCell ⟨w.heap.size, 2, none⟩ (.slice E1 c.ddt.length d1)) w.heap.size [.int .i64 c.txg, .slice E0 c.sets.length d0, .slice E1 c.ddt.length d1, .slice A2 c.parts.length k2, .bool c.dirty, .slice A3 c.safe.length k3, .int .i64 c.logn] from Y1.out.set 2 (.slice E1 c.ddt.length d1))
      have Z2 := Lib.hid (P1.box (by omega) Y2.out)
      have B2 := Lib.hid (P1.below B1.out (Nat.le_refl _))
      have hx4 : w.heap.size + 1 < (ws5.setCell ⟨w.heap.size, 2, none⟩ (.slice E1 c.ddt.length d1)).heap.size := by rw [P1.size]; exact hx3
      have O0n := Lib.hid (own_kept O0.out (w' := ws5.setCell ⟨w.heap.size, 2, none⟩ (.slice E1 c.ddt.length d1)) (fun b e => P1.block b (by have := (O0.out.lt b e).1; omega)))
      have O1n := Lib.hid (own_kept O1.out (w' := ws5.setCell ⟨w.heap.size, 2, none⟩ (.slice E1 c.ddt.length d1)) (fun b e => P1.block b (by have := (O1.out.lt b e).1; omega)))
      clear P1 Y1 Y2 B1 hx3 O0 O1
      generalize ws5.setCell ⟨w.heap.size, 2, none⟩ (.slice E1 c.ddt.length d1) = ws6 at hHeld6 Z1 Z2 B2 hx4 O0n O1n ⊢
      have Y1 := Z1
      have Y2 := Z2
      have B1 := B2
      have hx3 := hx4
      clear Z1 Z2 B2 hx4
      have O0 := O0n
      clear O0n
      have O1 := O1n
      clear O1n
      refine wpAnyH_done (by kernel_rfl) ?_ _
      go_simp
      go_wp2_with fail
      go_meet
      exact ⟨E0, d0, E1, d1, Y1, Y2, B1, hx3, O0, O1, U01⟩
  case rest =>
  obtain ⟨E0, d0, E1, d1, X1, X2, B0, hx2, O0, O1, U01⟩ := hcut
  go_upto_region 2 with fail
  go_cut [] from 11 to 18 (fun wx => ∃ (E0 : Option Addr) (d0 : Nat) (E1 : Option Addr) (d1 : Nat) (E2 : Option Addr) (d2 : Nat) (E3 : Option Addr) (d3 : Nat), Hid (Box wx w.heap.size [.int .i64 c.txg, .slice E0 c.sets.length d0, .slice E1 c.ddt.length d1, .slice E2 c.parts.length d2, .bool c.dirty, .slice E3 c.safe.length d3, .int .i64 c.logn]) ∧ Hid (Box wx (w.heap.size + 1) [.int .i64 0, .slice none 0 0, .slice none 0 0, .slice none 0 0, .bool false, .slice none 0 0, .int .i64 0]) ∧ Hid (Below w.heap.size w wx) ∧ w.heap.size + 1 < wx.heap.size ∧ Hid (wx.ownsRow (w.heap.size + 1 + 1) 89 31 (.slice E0 c.sets.length d0) c.sets.length (ccs c.sets)) ∧ Hid (wx.ownsRow (w.heap.size + 1 + 1) 126 3 (.slice E1 c.ddt.length d1) c.ddt.length (ecs c.ddt)) ∧ Hid (wx.ownsRow (w.heap.size + 1 + 1) 86 3 (.slice E2 c.parts.length d2) c.parts.length (pcs c.parts)) ∧ Hid (wx.ownsRow (w.heap.size + 1 + 1) 3 1 (.slice E3 c.safe.length d3) c.safe.length (ics c.safe)) ∧ Hid (∀ b, (Value.slice E0 c.sets.length d0).ownBlock = some b → (Value.slice E1 c.ddt.length d1).ownBlock = some b → False) ∧ Hid (∀ b, (Value.slice E0 c.sets.length d0).ownBlock = some b → (Value.slice E2 c.parts.length d2).ownBlock = some b → False) ∧ Hid (∀ b, (Value.slice E0 c.sets.length d0).ownBlock = some b → (Value.slice E3 c.safe.length d3).ownBlock = some b → False) ∧ Hid (∀ b, (Value.slice E1 c.ddt.length d1).ownBlock = some b → (Value.slice E2 c.parts.length d2).ownBlock = some b → False) ∧ Hid (∀ b, (Value.slice E1 c.ddt.length d1).ownBlock = some b → (Value.slice E3 c.safe.length d3).ownBlock = some b → False) ∧ Hid (∀ b, (Value.slice E2 c.parts.length d2).ownBlock = some b → (Value.slice E3 c.safe.length d3).ownBlock = some b → False))
  case first =>
    refine wp_region_held_drew (S := fun _ => True) (by kernel_rfl) trivial (fun hHeld => ?_)
    have Y1 := Lib.hid X1.out.drew
    have Y2 := Lib.hid X2.out.drew
    have B1 := Lib.hid B0.out.drew
    have hx3 : w.heap.size + 1 < wc.drew.heap.size := hx2
    have O0n := Lib.hid (own_kept O0.out (w' := wc.drew) (fun _ _ => rfl))
    have O1n := Lib.hid (own_kept O1.out (w' := wc.drew) (fun _ _ => rfl))
    clear X1 X2 B0 hx2 O0 O1
    generalize wc.drew = wd at hHeld Y1 Y2 B1 hx3 O0n O1n ⊢
    have O0 := O0n
    clear O0n
    have O1 := O1n
    clear O1n
    refine wpAnyH_take (i := 0) (v := ?_) rfl (by kernel_rfl) (by kernel_rfl) (by kernel_rfl) (fun _ _ _ h => h) (Or.inl ⟨by rfl, ?_⟩) (by assumption) ?_
    rotate_left
    · (intro w' hSw; go_simp; try with_reducible rfl)
    try simp only [Act.put]
    refine wpAnyH_take (i := 3) (v := ?_) rfl (by kernel_rfl) (by kernel_rfl) (by kernel_rfl) (fun _ _ _ h => h) (Or.inl ⟨by rfl, ?_⟩) (by assumption) ?_
    rotate_left
    · (intro w' hSw; go_simp; try with_reducible rfl)
    try simp only [Act.put]
    refine wpAnyH_ready (rs := [1, 4]) (by kernel_rfl) (by simp) ?_
    refine AllReadyH.cons rfl (fun K hK => ?_) (AllReadyH.cons rfl (fun K hK => ?_) (AllReadyH.nil))
    · have hway : True := trivial
      have q := Y1.out.cell 3 rfl
      go_simp
      refine hK.out _ _ trivial (fun hHeld1 => ?_)
      clear hK K
      try simp only [Act.put]
      clear q
      refine wpAnyH_ready (rs := [2, 4]) (by kernel_rfl) (by simp) ?_
      refine AllReadyH.cons rfl (fun K hK => ?_) (AllReadyH.cons rfl (fun K hK => ?_) (AllReadyH.nil))
      · have hway : True := trivial
        go_simp
        go_at_call 95
        refine (clonePtr_any _ c.parts _ (HR.out.p.below B1.out (fun b e => HR.out.lp b e)) (fun b e => Nat.lt_of_lt_of_le (HR.out.lp b e) B1.out.size) HS.out.p).mono ?_
        rintro e wt2 ⟨E2, d2, rfl, hown, hb⟩
        have O2 := Lib.hid (own_base hown (Nat.succ_le_of_lt hx3))
        have U02 := Lib.hid (show ∀ b, (Value.slice E0 c.sets.length d0).ownBlock = some b → (Value.slice E2 c.parts.length d2).ownBlock = some b → False from fun b e1 e2 => by have := (O0.out.lt b e1).2; have := (hown.lt b e2).1; omega)
        have U12 := Lib.hid (show ∀ b, (Value.slice E1 c.ddt.length d1).ownBlock = some b → (Value.slice E2 c.parts.length d2).ownBlock = some b → False from fun b e1 e2 => by have := (O1.out.lt b e1).2; have := (hown.lt b e2).1; omega)
        have O0n := Lib.hid (own_kept O0.out (fun b e => hb.block b (O0.out.lt b e).2))
        clear O0
        have O0 := O0n
        clear O0n
        have O1n := Lib.hid (own_kept O1.out (fun b e => hb.block b (O1.out.lt b e).2))
        clear O1
        have O1 := O1n
        clear O1n
        have Z1 := Lib.hid (Y1.out.below hb Y1.out.lt)
        have Z2 := Lib.hid (Y2.out.below hb Y2.out.lt)
        have B2 := Lib.hid (B1.out.trans (hb.mono B1.out.size))
        have hx4 : w.heap.size + 1 < wt2.heap.size := Nat.lt_of_lt_of_le hx3 hb.size
        clear hb hown Y1 Y2 B1 hx3
        have Y1 := Z1
        have Y2 := Z2
        have B1 := B2
        have hx3 := hx4
        clear Z1 Z2 B2 hx4
        go_wp2_with fail
        refine hK.out _ _ trivial (fun hHeld2 => ?_)
        clear hK K
        try simp only [Act.put]
        refine wpAnyH_ready (rs := [4]) (by kernel_rfl) (by simp) ?_
        refine AllReadyH.cons rfl (fun K hK => ?_) (AllReadyH.nil)
        have q := Y1.out.cell 5 rfl
        go_simp
        refine hK.out _ _ trivial (fun hHeld3 => ?_)
        clear hK K
        try simp only [Act.put]
        clear q
        refine wpAnyH_take (i := 6) (v := ?_) rfl (by kernel_rfl) (by kernel_rfl) (by kernel_rfl) (fun _ _ _ h => h) (Or.inl ⟨by rfl, ?_⟩) (by assumption) ?_
        rotate_left
        · (intro w' hSw; go_simp; try with_reducible rfl)
        try simp only [Act.put]
        refine wpAnyH_ready (rs := [5]) (by kernel_rfl) (by simp) ?_
        refine AllReadyH.cons rfl (fun K hK => ?_) (AllReadyH.nil)
        go_simp
        go_at_call 96
        refine (cloneInt_any _ c.safe _ (HR.out.i.below B1.out (fun b e => HR.out.li b e)) (fun b e => Nat.lt_of_lt_of_le (HR.out.li b e) B1.out.size) HS.out.i).mono ?_
        rintro e wt4 ⟨E3, d3, rfl, hown, hb⟩
        have O3 := Lib.hid (own_base hown (Nat.succ_le_of_lt hx3))
        have U03 := Lib.hid (show ∀ b, (Value.slice E0 c.sets.length d0).ownBlock = some b → (Value.slice E3 c.safe.length d3).ownBlock = some b → False from fun b e1 e2 => by have := (O0.out.lt b e1).2; have := (hown.lt b e2).1; omega)
        have U13 := Lib.hid (show ∀ b, (Value.slice E1 c.ddt.length d1).ownBlock = some b → (Value.slice E3 c.safe.length d3).ownBlock = some b → False from fun b e1 e2 => by have := (O1.out.lt b e1).2; have := (hown.lt b e2).1; omega)
        have U23 := Lib.hid (show ∀ b, (Value.slice E2 c.parts.length d2).ownBlock = some b → (Value.slice E3 c.safe.length d3).ownBlock = some b → False from fun b e1 e2 => by have := (O2.out.lt b e1).2; have := (hown.lt b e2).1; omega)
        have O0n := Lib.hid (own_kept O0.out (fun b e => hb.block b (O0.out.lt b e).2))
        clear O0
        have O0 := O0n
        clear O0n
        have O1n := Lib.hid (own_kept O1.out (fun b e => hb.block b (O1.out.lt b e).2))
        clear O1
        have O1 := O1n
        clear O1n
        have O2n := Lib.hid (own_kept O2.out (fun b e => hb.block b (O2.out.lt b e).2))
        clear O2
        have O2 := O2n
        clear O2n
        have Z1 := Lib.hid (Y1.out.below hb Y1.out.lt)
        have Z2 := Lib.hid (Y2.out.below hb Y2.out.lt)
        have B2 := Lib.hid (B1.out.trans (hb.mono B1.out.size))
        have hx4 : w.heap.size + 1 < wt4.heap.size := Nat.lt_of_lt_of_le hx3 hb.size
        clear hb hown Y1 Y2 B1 hx3
        have Y1 := Z1
        have Y2 := Z2
        have B1 := B2
        have hx3 := hx4
        clear Z1 Z2 B2 hx4
        go_wp2_with fail
        refine hK.out _ _ trivial (fun hHeld4 => ?_)
        clear hK K
        try simp only [Act.put]
        refine wpAnyH_ready (rs := [7]) (by kernel_rfl) (by simp) ?_
        refine AllReadyH.cons rfl (fun K hK => ?_) (AllReadyH.nil)
        have c := Y1.out.cell 3 rfl
        have f := Y1.out.open_ 3
        go_simp
        refine hK.out _ _ trivial (fun hHeld5 => ?_)
        clear hK K
        try simp only [Act.put]
        clear c f
        have P1 := putAt_setCell wt4 w.heap.size 3 (.slice E2 c.parts.length d2)
        have Z1 := Lib.hid (show Box (wt4.setCell ⟨w.heap.size, 3, none⟩ (.slice E2 c.parts.length d2)) w.heap.size [.int .i64 c.txg, .slice E0 c.sets.length d0, .slice E1 c.ddt.length d1, .slice E2 c.parts.length d2, .bool c.dirty, .slice A3 c.safe.length k3, .int .i64 c.logn] from Y1.out.set 3 (.slice E2 c.parts.length d2))
        have Z2 := Lib.hid (P1.box (by omega) Y2.out)
        have B2 := Lib.hid (P1.below B1.out (Nat.le_refl _))
        have hx4 : w.heap.size + 1 < (wt4.setCell ⟨w.heap.size, 3, none⟩ (.slice E2 c.parts.length d2)).heap.size := by rw [P1.size]; exact hx3
        have O0n := Lib.hid (own_kept O0.out (w' := wt4.setCell ⟨w.heap.size, 3, none⟩ (.slice E2 c.parts.length d2)) (fun b e => P1.block b (by have := (O0.out.lt b e).1; omega)))
        have O1n := Lib.hid (own_kept O1.out (w' := wt4.setCell ⟨w.heap.size, 3, none⟩ (.slice E2 c.parts.length d2)) (fun b e => P1.block b (by have := (O1.out.lt b e).1; omega)))
        have O2n := Lib.hid (own_kept O2.out (w' := wt4.setCell ⟨w.heap.size, 3, none⟩ (.slice E2 c.parts.length d2)) (fun b e => P1.block b (by have := (O2.out.lt b e).1; omega)))
        have O3n := Lib.hid (own_kept O3.out (w' := wt4.setCell ⟨w.heap.size, 3, none⟩ (.slice E2 c.parts.length d2)) (fun b e => P1.block b (by have := (O3.out.lt b e).1; omega)))
        clear P1 Y1 Y2 B1 hx3 O0 O1 O2 O3
        generalize wt4.setCell ⟨w.heap.size, 3, none⟩ (.slice E2 c.parts.length d2) = ws5 at hHeld5 Z1 Z2 B2 hx4 O0n O1n O2n O3n ⊢
        have Y1 := Z1
        have Y2 := Z2
        have B1 := B2
        have hx3 := hx4
        clear Z1 Z2 B2 hx4
        have O0 := O0n
        clear O0n
        have O1 := O1n
        clear O1n
        have O2 := O2n
        clear O2n
        have O3 := O3n
        clear O3n
        refine wpAnyH_take (i := 8) (v := ?_) rfl (by kernel_rfl) (by kernel_rfl) (by kernel_rfl) (fun _ _ _ h => h) (Or.inl ⟨by rfl, ?_⟩) (by assumption) ?_
        rotate_left
        · (intro w' hSw; go_simp; try with_reducible rfl)
        try simp only [Act.put]
        refine wpAnyH_ready (rs := [9]) (by kernel_rfl) (by simp) ?_
        refine AllReadyH.cons rfl (fun K hK => ?_) (AllReadyH.nil)
        have c := Y1.out.cell 5 rfl
        have f := Y1.out.open_ 5
        go_simp
        refine hK.out _ _ trivial (fun hHeld6 => ?_)
        clear hK K
        try simp only [Act.put]
        clear c f
        have P1 := putAt_setCell ws5 w.heap.size 5 (.slice E3 c.safe.length d3)
        have Z1 := Lib.hid (show Box (ws5.setCell ⟨w.heap.size, 5, none⟩ (.slice E3 c.safe.length d3)) w.heap.size [.int .i64 c.txg, .slice E0 c.sets.length d0, .slice E1 c.ddt.length d1, .slice E2 c.parts.length d2, .bool c.dirty, .slice E3 c.safe.length d3, .int .i64 c.logn] from Y1.out.set 5 (.slice E3 c.safe.length d3))
        have Z2 := Lib.hid (P1.box (by omega) Y2.out)
        have B2 := Lib.hid (P1.below B1.out (Nat.le_refl _))
        have hx4 : w.heap.size + 1 < (ws5.setCell ⟨w.heap.size, 5, none⟩ (.slice E3 c.safe.length d3)).heap.size := by rw [P1.size]; exact hx3
        have O0n := Lib.hid (own_kept O0.out (w' := ws5.setCell ⟨w.heap.size, 5, none⟩ (.slice E3 c.safe.length d3)) (fun b e => P1.block b (by have := (O0.out.lt b e).1; omega)))
        have O1n := Lib.hid (own_kept O1.out (w' := ws5.setCell ⟨w.heap.size, 5, none⟩ (.slice E3 c.safe.length d3)) (fun b e => P1.block b (by have := (O1.out.lt b e).1; omega)))
        have O2n := Lib.hid (own_kept O2.out (w' := ws5.setCell ⟨w.heap.size, 5, none⟩ (.slice E3 c.safe.length d3)) (fun b e => P1.block b (by have := (O2.out.lt b e).1; omega)))
        have O3n := Lib.hid (own_kept O3.out (w' := ws5.setCell ⟨w.heap.size, 5, none⟩ (.slice E3 c.safe.length d3)) (fun b e => P1.block b (by have := (O3.out.lt b e).1; omega)))
        clear P1 Y1 Y2 B1 hx3 O0 O1 O2 O3
        generalize ws5.setCell ⟨w.heap.size, 5, none⟩ (.slice E3 c.safe.length d3) = ws6 at hHeld6 Z1 Z2 B2 hx4 O0n O1n O2n O3n ⊢
        have Y1 := Z1
        have Y2 := Z2
        have B1 := B2
        have hx3 := hx4
        clear Z1 Z2 B2 hx4
        have O0 := O0n
        clear O0n
        have O1 := O1n
        clear O1n
        have O2 := O2n
        clear O2n
        have O3 := O3n
        clear O3n
        refine wpAnyH_done (by kernel_rfl) ?_ _
        go_simp
        go_wp2_with fail
        go_meet
        exact ⟨E0, d0, E1, d1, E2, d2, E3, d3, Y1, Y2, B1, hx3, O0, O1, O2, O3, U01, U02, U03, U12, U13, U23⟩
      · have hway : True := trivial
        have q := Y1.out.cell 5 rfl
        go_simp
        refine hK.out _ _ trivial (fun hHeld2 => ?_)
        clear hK K
        try simp only [Act.put]
        clear q
        refine wpAnyH_ready (rs := [2]) (by kernel_rfl) (by simp) ?_
        refine AllReadyH.cons rfl (fun K hK => ?_) (AllReadyH.nil)
        go_simp
        go_at_call 95
        refine (clonePtr_any _ c.parts _ (HR.out.p.below B1.out (fun b e => HR.out.lp b e)) (fun b e => Nat.lt_of_lt_of_le (HR.out.lp b e) B1.out.size) HS.out.p).mono ?_
        rintro e wt3 ⟨E2, d2, rfl, hown, hb⟩
        have O2 := Lib.hid (own_base hown (Nat.succ_le_of_lt hx3))
        have U02 := Lib.hid (show ∀ b, (Value.slice E0 c.sets.length d0).ownBlock = some b → (Value.slice E2 c.parts.length d2).ownBlock = some b → False from fun b e1 e2 => by have := (O0.out.lt b e1).2; have := (hown.lt b e2).1; omega)
        have U12 := Lib.hid (show ∀ b, (Value.slice E1 c.ddt.length d1).ownBlock = some b → (Value.slice E2 c.parts.length d2).ownBlock = some b → False from fun b e1 e2 => by have := (O1.out.lt b e1).2; have := (hown.lt b e2).1; omega)
        have O0n := Lib.hid (own_kept O0.out (fun b e => hb.block b (O0.out.lt b e).2))
        clear O0
        have O0 := O0n
        clear O0n
        have O1n := Lib.hid (own_kept O1.out (fun b e => hb.block b (O1.out.lt b e).2))
        clear O1
        have O1 := O1n
        clear O1n
        have Z1 := Lib.hid (Y1.out.below hb Y1.out.lt)
        have Z2 := Lib.hid (Y2.out.below hb Y2.out.lt)
        have B2 := Lib.hid (B1.out.trans (hb.mono B1.out.size))
        have hx4 : w.heap.size + 1 < wt3.heap.size := Nat.lt_of_lt_of_le hx3 hb.size
        clear hb hown Y1 Y2 B1 hx3
        have Y1 := Z1
        have Y2 := Z2
        have B1 := B2
        have hx3 := hx4
        clear Z1 Z2 B2 hx4
        go_wp2_with fail
        refine hK.out _ _ trivial (fun hHeld3 => ?_)
        clear hK K
        try simp only [Act.put]
        refine wpAnyH_take (i := 6) (v := ?_) rfl (by kernel_rfl) (by kernel_rfl) (by kernel_rfl) (fun _ _ _ h => h) (Or.inl ⟨by rfl, ?_⟩) (by assumption) ?_
        rotate_left
        · (intro w' hSw; go_simp; try with_reducible rfl)
        try simp only [Act.put]
        refine wpAnyH_ready (rs := [5]) (by kernel_rfl) (by simp) ?_
        refine AllReadyH.cons rfl (fun K hK => ?_) (AllReadyH.nil)
        go_simp
        go_at_call 96
        refine (cloneInt_any _ c.safe _ (HR.out.i.below B1.out (fun b e => HR.out.li b e)) (fun b e => Nat.lt_of_lt_of_le (HR.out.li b e) B1.out.size) HS.out.i).mono ?_
        rintro e wt4 ⟨E3, d3, rfl, hown, hb⟩
        have O3 := Lib.hid (own_base hown (Nat.succ_le_of_lt hx3))
        have U03 := Lib.hid (show ∀ b, (Value.slice E0 c.sets.length d0).ownBlock = some b → (Value.slice E3 c.safe.length d3).ownBlock = some b → False from fun b e1 e2 => by have := (O0.out.lt b e1).2; have := (hown.lt b e2).1; omega)
        have U13 := Lib.hid (show ∀ b, (Value.slice E1 c.ddt.length d1).ownBlock = some b → (Value.slice E3 c.safe.length d3).ownBlock = some b → False from fun b e1 e2 => by have := (O1.out.lt b e1).2; have := (hown.lt b e2).1; omega)
        have U23 := Lib.hid (show ∀ b, (Value.slice E2 c.parts.length d2).ownBlock = some b → (Value.slice E3 c.safe.length d3).ownBlock = some b → False from fun b e1 e2 => by have := (O2.out.lt b e1).2; have := (hown.lt b e2).1; omega)
        have O0n := Lib.hid (own_kept O0.out (fun b e => hb.block b (O0.out.lt b e).2))
        clear O0
        have O0 := O0n
        clear O0n
        have O1n := Lib.hid (own_kept O1.out (fun b e => hb.block b (O1.out.lt b e).2))
        clear O1
        have O1 := O1n
        clear O1n
        have O2n := Lib.hid (own_kept O2.out (fun b e => hb.block b (O2.out.lt b e).2))
        clear O2
        have O2 := O2n
        clear O2n
        have Z1 := Lib.hid (Y1.out.below hb Y1.out.lt)
        have Z2 := Lib.hid (Y2.out.below hb Y2.out.lt)
        have B2 := Lib.hid (B1.out.trans (hb.mono B1.out.size))
        have hx4 : w.heap.size + 1 < wt4.heap.size := Nat.lt_of_lt_of_le hx3 hb.size
        clear hb hown Y1 Y2 B1 hx3
        have Y1 := Z1
        have Y2 := Z2
        have B1 := B2
        have hx3 := hx4
        clear Z1 Z2 B2 hx4
        go_wp2_with fail
        refine hK.out _ _ trivial (fun hHeld4 => ?_)
        clear hK K
        try simp only [Act.put]
        refine wpAnyH_ready (rs := [7]) (by kernel_rfl) (by simp) ?_
        refine AllReadyH.cons rfl (fun K hK => ?_) (AllReadyH.nil)
        have c := Y1.out.cell 3 rfl
        have f := Y1.out.open_ 3
        go_simp
        refine hK.out _ _ trivial (fun hHeld5 => ?_)
        clear hK K
        try simp only [Act.put]
        clear c f
        have P1 := putAt_setCell wt4 w.heap.size 3 (.slice E2 c.parts.length d2)
        have Z1 := Lib.hid (show Box (wt4.setCell ⟨w.heap.size, 3, none⟩ (.slice E2 c.parts.length d2)) w.heap.size [.int .i64 c.txg, .slice E0 c.sets.length d0, .slice E1 c.ddt.length d1, .slice E2 c.parts.length d2, .bool c.dirty, .slice A3 c.safe.length k3, .int .i64 c.logn] from Y1.out.set 3 (.slice E2 c.parts.length d2))
        have Z2 := Lib.hid (P1.box (by omega) Y2.out)
        have B2 := Lib.hid (P1.below B1.out (Nat.le_refl _))
        have hx4 : w.heap.size + 1 < (wt4.setCell ⟨w.heap.size, 3, none⟩ (.slice E2 c.parts.length d2)).heap.size := by rw [P1.size]; exact hx3
        have O0n := Lib.hid (own_kept O0.out (w' := wt4.setCell ⟨w.heap.size, 3, none⟩ (.slice E2 c.parts.length d2)) (fun b e => P1.block b (by have := (O0.out.lt b e).1; omega)))
        have O1n := Lib.hid (own_kept O1.out (w' := wt4.setCell ⟨w.heap.size, 3, none⟩ (.slice E2 c.parts.length d2)) (fun b e => P1.block b (by have := (O1.out.lt b e).1; omega)))
        have O2n := Lib.hid (own_kept O2.out (w' := wt4.setCell ⟨w.heap.size, 3, none⟩ (.slice E2 c.parts.length d2)) (fun b e => P1.block b (by have := (O2.out.lt b e).1; omega)))
        have O3n := Lib.hid (own_kept O3.out (w' := wt4.setCell ⟨w.heap.size, 3, none⟩ (.slice E2 c.parts.length d2)) (fun b e => P1.block b (by have := (O3.out.lt b e).1; omega)))
        clear P1 Y1 Y2 B1 hx3 O0 O1 O2 O3
        generalize wt4.setCell ⟨w.heap.size, 3, none⟩ (.slice E2 c.parts.length d2) = ws5 at hHeld5 Z1 Z2 B2 hx4 O0n O1n O2n O3n ⊢
        have Y1 := Z1
        have Y2 := Z2
        have B1 := B2
        have hx3 := hx4
        clear Z1 Z2 B2 hx4
        have O0 := O0n
        clear O0n
        have O1 := O1n
        clear O1n
        have O2 := O2n
        clear O2n
        have O3 := O3n
        clear O3n
        refine wpAnyH_take (i := 8) (v := ?_) rfl (by kernel_rfl) (by kernel_rfl) (by kernel_rfl) (fun _ _ _ h => h) (Or.inl ⟨by rfl, ?_⟩) (by assumption) ?_
        rotate_left
        · (intro w' hSw; go_simp; try with_reducible rfl)
        try simp only [Act.put]
        refine wpAnyH_ready (rs := [9]) (by kernel_rfl) (by simp) ?_
        refine AllReadyH.cons rfl (fun K hK => ?_) (AllReadyH.nil)
        have c := Y1.out.cell 5 rfl
        have f := Y1.out.open_ 5
        go_simp
        refine hK.out _ _ trivial (fun hHeld6 => ?_)
        clear hK K
        try simp only [Act.put]
        clear c f
        have P1 := putAt_setCell ws5 w.heap.size 5 (.slice E3 c.safe.length d3)
        have Z1 := Lib.hid (show Box (ws5.setCell ⟨w.heap.size, 5, none⟩ (.slice E3 c.safe.length d3)) w.heap.size [.int .i64 c.txg, .slice E0 c.sets.length d0, .slice E1 c.ddt.length d1, .slice E2 c.parts.length d2, .bool c.dirty, .slice E3 c.safe.length d3, .int .i64 c.logn] from Y1.out.set 5 (.slice E3 c.safe.length d3))
        have Z2 := Lib.hid (P1.box (by omega) Y2.out)
        have B2 := Lib.hid (P1.below B1.out (Nat.le_refl _))
        have hx4 : w.heap.size + 1 < (ws5.setCell ⟨w.heap.size, 5, none⟩ (.slice E3 c.safe.length d3)).heap.size := by rw [P1.size]; exact hx3
        have O0n := Lib.hid (own_kept O0.out (w' := ws5.setCell ⟨w.heap.size, 5, none⟩ (.slice E3 c.safe.length d3)) (fun b e => P1.block b (by have := (O0.out.lt b e).1; omega)))
        have O1n := Lib.hid (own_kept O1.out (w' := ws5.setCell ⟨w.heap.size, 5, none⟩ (.slice E3 c.safe.length d3)) (fun b e => P1.block b (by have := (O1.out.lt b e).1; omega)))
        have O2n := Lib.hid (own_kept O2.out (w' := ws5.setCell ⟨w.heap.size, 5, none⟩ (.slice E3 c.safe.length d3)) (fun b e => P1.block b (by have := (O2.out.lt b e).1; omega)))
        have O3n := Lib.hid (own_kept O3.out (w' := ws5.setCell ⟨w.heap.size, 5, none⟩ (.slice E3 c.safe.length d3)) (fun b e => P1.block b (by have := (O3.out.lt b e).1; omega)))
        clear P1 Y1 Y2 B1 hx3 O0 O1 O2 O3
        generalize ws5.setCell ⟨w.heap.size, 5, none⟩ (.slice E3 c.safe.length d3) = ws6 at hHeld6 Z1 Z2 B2 hx4 O0n O1n O2n O3n ⊢
        have Y1 := Z1
        have Y2 := Z2
        have B1 := B2
        have hx3 := hx4
        clear Z1 Z2 B2 hx4
        have O0 := O0n
        clear O0n
        have O1 := O1n
        clear O1n
        have O2 := O2n
        clear O2n
        have O3 := O3n
        clear O3n
        refine wpAnyH_done (by kernel_rfl) ?_ _
        go_simp
        go_wp2_with fail
        go_meet
        exact ⟨E0, d0, E1, d1, E2, d2, E3, d3, Y1, Y2, B1, hx3, O0, O1, O2, O3, U01, U02, U03, U12, U13, U23⟩
    · have hway : True := trivial
      have q := Y1.out.cell 5 rfl
      go_simp
      refine hK.out _ _ trivial (fun hHeld1 => ?_)
      clear hK K
      try simp only [Act.put]
      clear q
      refine wpAnyH_ready (rs := [1]) (by kernel_rfl) (by simp) ?_
      refine AllReadyH.cons rfl (fun K hK => ?_) (AllReadyH.nil)
      have q := Y1.out.cell 3 rfl
      go_simp
      refine hK.out _ _ trivial (fun hHeld2 => ?_)
      clear hK K
      try simp only [Act.put]
      clear q
      refine wpAnyH_ready (rs := [2]) (by kernel_rfl) (by simp) ?_
      refine AllReadyH.cons rfl (fun K hK => ?_) (AllReadyH.nil)
      go_simp
      go_at_call 95
      refine (clonePtr_any _ c.parts _ (HR.out.p.below B1.out (fun b e => HR.out.lp b e)) (fun b e => Nat.lt_of_lt_of_le (HR.out.lp b e) B1.out.size) HS.out.p).mono ?_
      rintro e wt3 ⟨E2, d2, rfl, hown, hb⟩
      have O2 := Lib.hid (own_base hown (Nat.succ_le_of_lt hx3))
      have U02 := Lib.hid (show ∀ b, (Value.slice E0 c.sets.length d0).ownBlock = some b → (Value.slice E2 c.parts.length d2).ownBlock = some b → False from fun b e1 e2 => by have := (O0.out.lt b e1).2; have := (hown.lt b e2).1; omega)
      have U12 := Lib.hid (show ∀ b, (Value.slice E1 c.ddt.length d1).ownBlock = some b → (Value.slice E2 c.parts.length d2).ownBlock = some b → False from fun b e1 e2 => by have := (O1.out.lt b e1).2; have := (hown.lt b e2).1; omega)
      have O0n := Lib.hid (own_kept O0.out (fun b e => hb.block b (O0.out.lt b e).2))
      clear O0
      have O0 := O0n
      clear O0n
      have O1n := Lib.hid (own_kept O1.out (fun b e => hb.block b (O1.out.lt b e).2))
      clear O1
      have O1 := O1n
      clear O1n
      have Z1 := Lib.hid (Y1.out.below hb Y1.out.lt)
      have Z2 := Lib.hid (Y2.out.below hb Y2.out.lt)
      have B2 := Lib.hid (B1.out.trans (hb.mono B1.out.size))
      have hx4 : w.heap.size + 1 < wt3.heap.size := Nat.lt_of_lt_of_le hx3 hb.size
      clear hb hown Y1 Y2 B1 hx3
      have Y1 := Z1
      have Y2 := Z2
      have B1 := B2
      have hx3 := hx4
      clear Z1 Z2 B2 hx4
      go_wp2_with fail
      refine hK.out _ _ trivial (fun hHeld3 => ?_)
      clear hK K
      try simp only [Act.put]
      refine wpAnyH_take (i := 6) (v := ?_) rfl (by kernel_rfl) (by kernel_rfl) (by kernel_rfl) (fun _ _ _ h => h) (Or.inl ⟨by rfl, ?_⟩) (by assumption) ?_
      rotate_left
      · (intro w' hSw; go_simp; try with_reducible rfl)
      try simp only [Act.put]
      refine wpAnyH_ready (rs := [5]) (by kernel_rfl) (by simp) ?_
      refine AllReadyH.cons rfl (fun K hK => ?_) (AllReadyH.nil)
      go_simp
      go_at_call 96
      refine (cloneInt_any _ c.safe _ (HR.out.i.below B1.out (fun b e => HR.out.li b e)) (fun b e => Nat.lt_of_lt_of_le (HR.out.li b e) B1.out.size) HS.out.i).mono ?_
      rintro e wt4 ⟨E3, d3, rfl, hown, hb⟩
      have O3 := Lib.hid (own_base hown (Nat.succ_le_of_lt hx3))
      have U03 := Lib.hid (show ∀ b, (Value.slice E0 c.sets.length d0).ownBlock = some b → (Value.slice E3 c.safe.length d3).ownBlock = some b → False from fun b e1 e2 => by have := (O0.out.lt b e1).2; have := (hown.lt b e2).1; omega)
      have U13 := Lib.hid (show ∀ b, (Value.slice E1 c.ddt.length d1).ownBlock = some b → (Value.slice E3 c.safe.length d3).ownBlock = some b → False from fun b e1 e2 => by have := (O1.out.lt b e1).2; have := (hown.lt b e2).1; omega)
      have U23 := Lib.hid (show ∀ b, (Value.slice E2 c.parts.length d2).ownBlock = some b → (Value.slice E3 c.safe.length d3).ownBlock = some b → False from fun b e1 e2 => by have := (O2.out.lt b e1).2; have := (hown.lt b e2).1; omega)
      have O0n := Lib.hid (own_kept O0.out (fun b e => hb.block b (O0.out.lt b e).2))
      clear O0
      have O0 := O0n
      clear O0n
      have O1n := Lib.hid (own_kept O1.out (fun b e => hb.block b (O1.out.lt b e).2))
      clear O1
      have O1 := O1n
      clear O1n
      have O2n := Lib.hid (own_kept O2.out (fun b e => hb.block b (O2.out.lt b e).2))
      clear O2
      have O2 := O2n
      clear O2n
      have Z1 := Lib.hid (Y1.out.below hb Y1.out.lt)
      have Z2 := Lib.hid (Y2.out.below hb Y2.out.lt)
      have B2 := Lib.hid (B1.out.trans (hb.mono B1.out.size))
      have hx4 : w.heap.size + 1 < wt4.heap.size := Nat.lt_of_lt_of_le hx3 hb.size
      clear hb hown Y1 Y2 B1 hx3
      have Y1 := Z1
      have Y2 := Z2
      have B1 := B2
      have hx3 := hx4
      clear Z1 Z2 B2 hx4
      go_wp2_with fail
      refine hK.out _ _ trivial (fun hHeld4 => ?_)
      clear hK K
      try simp only [Act.put]
      refine wpAnyH_ready (rs := [7]) (by kernel_rfl) (by simp) ?_
      refine AllReadyH.cons rfl (fun K hK => ?_) (AllReadyH.nil)
      have c := Y1.out.cell 3 rfl
      have f := Y1.out.open_ 3
      go_simp
      refine hK.out _ _ trivial (fun hHeld5 => ?_)
      clear hK K
      try simp only [Act.put]
      clear c f
      have P1 := putAt_setCell wt4 w.heap.size 3 (.slice E2 c.parts.length d2)
      have Z1 := Lib.hid (show Box (wt4.setCell ⟨w.heap.size, 3, none⟩ (.slice E2 c.parts.length d2)) w.heap.size [.int .i64 c.txg, .slice E0 c.sets.length d0, .slice E1 c.ddt.length d1, .slice E2 c.parts.length d2, .bool c.dirty, .slice A3 c.safe.length k3, .int .i64 c.logn] from Y1.out.set 3 (.slice E2 c.parts.length d2))
      have Z2 := Lib.hid (P1.box (by omega) Y2.out)
      have B2 := Lib.hid (P1.below B1.out (Nat.le_refl _))
      have hx4 : w.heap.size + 1 < (wt4.setCell ⟨w.heap.size, 3, none⟩ (.slice E2 c.parts.length d2)).heap.size := by rw [P1.size]; exact hx3
      have O0n := Lib.hid (own_kept O0.out (w' := wt4.setCell ⟨w.heap.size, 3, none⟩ (.slice E2 c.parts.length d2)) (fun b e => P1.block b (by have := (O0.out.lt b e).1; omega)))
      have O1n := Lib.hid (own_kept O1.out (w' := wt4.setCell ⟨w.heap.size, 3, none⟩ (.slice E2 c.parts.length d2)) (fun b e => P1.block b (by have := (O1.out.lt b e).1; omega)))
      have O2n := Lib.hid (own_kept O2.out (w' := wt4.setCell ⟨w.heap.size, 3, none⟩ (.slice E2 c.parts.length d2)) (fun b e => P1.block b (by have := (O2.out.lt b e).1; omega)))
      have O3n := Lib.hid (own_kept O3.out (w' := wt4.setCell ⟨w.heap.size, 3, none⟩ (.slice E2 c.parts.length d2)) (fun b e => P1.block b (by have := (O3.out.lt b e).1; omega)))
      clear P1 Y1 Y2 B1 hx3 O0 O1 O2 O3
      generalize wt4.setCell ⟨w.heap.size, 3, none⟩ (.slice E2 c.parts.length d2) = ws5 at hHeld5 Z1 Z2 B2 hx4 O0n O1n O2n O3n ⊢
      have Y1 := Z1
      have Y2 := Z2
      have B1 := B2
      have hx3 := hx4
      clear Z1 Z2 B2 hx4
      have O0 := O0n
      clear O0n
      have O1 := O1n
      clear O1n
      have O2 := O2n
      clear O2n
      have O3 := O3n
      clear O3n
      refine wpAnyH_take (i := 8) (v := ?_) rfl (by kernel_rfl) (by kernel_rfl) (by kernel_rfl) (fun _ _ _ h => h) (Or.inl ⟨by rfl, ?_⟩) (by assumption) ?_
      rotate_left
      · (intro w' hSw; go_simp; try with_reducible rfl)
      try simp only [Act.put]
      refine wpAnyH_ready (rs := [9]) (by kernel_rfl) (by simp) ?_
      refine AllReadyH.cons rfl (fun K hK => ?_) (AllReadyH.nil)
      have c := Y1.out.cell 5 rfl
      have f := Y1.out.open_ 5
      go_simp
      refine hK.out _ _ trivial (fun hHeld6 => ?_)
      clear hK K
      try simp only [Act.put]
      clear c f
      have P1 := putAt_setCell ws5 w.heap.size 5 (.slice E3 c.safe.length d3)
      have Z1 := Lib.hid (show Box (ws5.setCell ⟨w.heap.size, 5, none⟩ (.slice E3 c.safe.length d3)) w.heap.size [.int .i64 c.txg, .slice E0 c.sets.length d0, .slice E1 c.ddt.length d1, .slice E2 c.parts.length d2, .bool c.dirty, .slice E3 c.safe.length d3, .int .i64 c.logn] from Y1.out.set 5 (.slice E3 c.safe.length d3))
      have Z2 := Lib.hid (P1.box (by omega) Y2.out)
      have B2 := Lib.hid (P1.below B1.out (Nat.le_refl _))
      have hx4 : w.heap.size + 1 < (ws5.setCell ⟨w.heap.size, 5, none⟩ (.slice E3 c.safe.length d3)).heap.size := by rw [P1.size]; exact hx3
      have O0n := Lib.hid (own_kept O0.out (w' := ws5.setCell ⟨w.heap.size, 5, none⟩ (.slice E3 c.safe.length d3)) (fun b e => P1.block b (by have := (O0.out.lt b e).1; omega)))
      have O1n := Lib.hid (own_kept O1.out (w' := ws5.setCell ⟨w.heap.size, 5, none⟩ (.slice E3 c.safe.length d3)) (fun b e => P1.block b (by have := (O1.out.lt b e).1; omega)))
      have O2n := Lib.hid (own_kept O2.out (w' := ws5.setCell ⟨w.heap.size, 5, none⟩ (.slice E3 c.safe.length d3)) (fun b e => P1.block b (by have := (O2.out.lt b e).1; omega)))
      have O3n := Lib.hid (own_kept O3.out (w' := ws5.setCell ⟨w.heap.size, 5, none⟩ (.slice E3 c.safe.length d3)) (fun b e => P1.block b (by have := (O3.out.lt b e).1; omega)))
      clear P1 Y1 Y2 B1 hx3 O0 O1 O2 O3
      generalize ws5.setCell ⟨w.heap.size, 5, none⟩ (.slice E3 c.safe.length d3) = ws6 at hHeld6 Z1 Z2 B2 hx4 O0n O1n O2n O3n ⊢
      have Y1 := Z1
      have Y2 := Z2
      have B1 := B2
      have hx3 := hx4
      clear Z1 Z2 B2 hx4
      have O0 := O0n
      clear O0n
      have O1 := O1n
      clear O1n
      have O2 := O2n
      clear O2n
      have O3 := O3n
      clear O3n
      refine wpAnyH_done (by kernel_rfl) ?_ _
      go_simp
      go_wp2_with fail
      go_meet
      exact ⟨E0, d0, E1, d1, E2, d2, E3, d3, Y1, Y2, B1, hx3, O0, O1, O2, O3, U01, U02, U03, U12, U13, U23⟩
  case rest =>
  obtain ⟨E0, d0, E1, d1, E2, d2, E3, d3, X1, X2, B0, hx2, O0, O1, O2, O3, U01, U02, U03, U12, U13, U23⟩ := hcut
  go_wp2_with (first
    | (refine wpList_load_box rfl _ rfl aggCore rfl [.int .i64 c.txg, .slice E0 c.sets.length d0, .slice E1 c.ddt.length d1, .slice E2 c.parts.length d2, .bool c.dirty, .slice E3 c.safe.length d3, .int .i64 c.logn] rfl X1.out ?_)
    | (refine wpList_put_mid rfl _ _ rfl rfl aggCore rfl [.int .i64 c.txg, .slice E0 c.sets.length d0, .slice E1 c.ddt.length d1, .slice E2 c.parts.length d2, .bool c.dirty, .slice E3 c.safe.length d3, .int .i64 c.logn] rfl rfl (by simp [Value.oneCell']) X2.out [] [.int .i64 0, .slice none 0 0, .slice none 0 0, .slice none 0 0, .bool false, .slice none 0 0, .int .i64 0] [] [.int .i64 c.txg, .slice E0 c.sets.length d0, .slice E1 c.ddt.length d1, .slice E2 c.parts.length d2, .bool c.dirty, .slice E3 c.safe.length d3, .int .i64 c.logn] rfl rfl rfl rfl ?_))
  intro W4 P1 Z2
  go_wp2
  refine bodyPost_ret (results_box rfl _ (w.heap.size + 1) [.int .i64 c.txg, .slice E0 c.sets.length d0, .slice E1 c.ddt.length d1, .slice E2 c.parts.length d2, .bool c.dirty, .slice E3 c.safe.length d3, .int .i64 c.logn] aggCore rfl rfl Z2) rfl ⟨_, _, _, _, rfl, ⟨?_, ?_, ?_, ?_, U01.out, U02.out, U03.out, U12.out, U13.out, U23.out⟩, P1.below B0.out (by omega)⟩
  · exact own_base (own_kept O0.out (fun b e => P1.block b (by have := (O0.out.lt b e).1; omega))) (by omega)
  · exact own_base (own_kept O1.out (fun b e => P1.block b (by have := (O1.out.lt b e).1; omega))) (by omega)
  · exact own_base (own_kept O2.out (fun b e => P1.block b (by have := (O2.out.lt b e).1; omega))) (by omega)
  · exact own_base (own_kept O3.out (fun b e => P1.block b (by have := (O3.out.lt b e).1; omega))) (by omega)
end Go.Proofs.YtobjgdnmlibofaaGreat

/-
  A core, and a store, in new memory: spec's l5Copy, l6Copy and l10Copy, impl's poolCopy.
-/
set_option maxRecDepth 100000
namespace Go.Proofs.YtobjgdnmlibofaaGreat
open Go.ChangeShapes Go.WideShapes Go.ChangeAt Go.RowKit Go.Proofs.Palim

set_option maxHeartbeats 1000000 in
theorem l5CopyB_any (v : Value) (ls : List EntM) (w : World) (h : Sl w 3 v ls.length (ecs ls)) (hv : Low w.heap.size v) (hl : ls.length ≤ 1048576) :
    Calls Tryz.prog 121 #[v] w fun e w' => ∃ v, e = .returned v ∧ w'.ownsRow w.heap.size 126 3 v ls.length (ecs ls) ∧ Below w.heap.size w w' := by
  obtain ⟨i0, hi, hz0, hz1, hz2⟩ := info_parts infoEnt
  obtain ⟨n, HN⟩ : ∃ n, Hid (ls.length = n) := ⟨_, Lib.hid rfl⟩
  rw [HN.out] at hl
  have hb1 := Below.new1 (w := w) (.cells #[] 126)
  have HS := Lib.hid (show Sl (w.alloc (.cells #[] 126)) 3 v n (ecs ls) from by rw [← HN.out]; exact h.below hb1 hv)
  obtain ⟨_, A, c, rfl, -, -, -⟩ := h
  rw [HN.out] at HS hv ⊢
  clear hv hb1
  go_enter Tryz.func121, Tryz.ntmps121
  go_wp2_with (first | (at_builtin; refine wpList_append_freshB _ rfl _ _ 41 rfl w.heap.size 126 i0 _ 3 24 Tryz.underlying41 hi hz0 hz1 hz2 rfl (by omega) (.slice (some ⟨w.heap.size, 0, none⟩) 0 0) 0 [] rfl (World.ownsRow_made w #[] 0 (Nat.le_refl _) (by unfold maxLen; omega) rfl) (.slice A n c) n (ecs ls) rfl HS.out (ecs_oneK _) (by unfold maxLen; omega) (by omega) (by simp) ?_))
  intro A1 cap1 w1 hown1 hg1 _
  have HB1 := Lib.hid (show Below w.heap.size w w1 from ((Below.refl _ w).alloc (Nat.le_refl _) _).grown hg1 (by simp) (by intro k hk; simp [Value.ownBlock] at hk; omega))
  have HO := Lib.hid (show w1.ownsRow w.heap.size 126 3 (.slice A1 n cap1) n (ecs ls) from by simpa using hown1)
  clear hown1 hg1
  go_wp2
  go_ret
  exact ⟨_, rfl, HO.out, HB1.out⟩

set_option maxHeartbeats 4000000 in
theorem l6Copy_any (vs vd vp vi : Value) (c : CoreM) (w : World) (h : CoreR w vs vd vp vi c) (hs : CoreShort c) :
    Calls Tryz.prog 73 #[cv c vs vd vp vi] w (NewCoreO w c) := by
  obtain ⟨A0, k0, A1, k1, A2, k2, A3, k3, rfl, rfl, rfl, rfl⟩ := h.forms
  obtain ⟨i0, hi0, hz00, hz01, hz02⟩ := info_parts infoCSet
  obtain ⟨i2, hi2, hz20, hz21, hz22⟩ := info_parts infoPtr
  obtain ⟨i3, hi3, hz30, hz31, hz32⟩ := info_parts infoInt
  have hn0 := hs.s
  have hn2 := hs.p
  have hn3 := hs.i
  obtain ⟨b1, b2, hsz, hB⟩ := box2 w #[.int .i64 c.txg, .slice A0 c.sets.length k0, .slice A1 c.ddt.length k1, .slice A2 c.parts.length k2, .bool c.dirty, .slice A3 c.safe.length k3, .int .i64 c.logn] #[.int .i64 0, .slice none 0 0, .slice none 0 0, .slice none 0 0, .bool false, .slice none 0 0, .int .i64 0] 44 44
  have X1 := Lib.hid (show Box _ _ [.int .i64 c.txg, .slice A0 c.sets.length k0, .slice A1 c.ddt.length k1, .slice A2 c.parts.length k2, .bool c.dirty, .slice A3 c.safe.length k3, .int .i64 c.logn] from b1)
  have X2 := Lib.hid (show Box _ _ [.int .i64 0, .slice none 0 0, .slice none 0 0, .slice none 0 0, .bool false, .slice none 0 0, .int .i64 0] from b2)
  have B0 := Lib.hid hB
  have HR := Lib.hid h
  have HS := Lib.hid hs
  clear b1 b2 hB h hs
  go_enter Tryz.func73, Tryz.ntmps73
  go_upto_region 1 with fail
  obtain ⟨W, HWE⟩ : ∃ W, (w.alloc (.cells #[.int .i64 c.txg, .slice A0 c.sets.length k0, .slice A1 c.ddt.length k1, .slice A2 c.parts.length k2, .bool c.dirty, .slice A3 c.safe.length k3, .int .i64 c.logn] 44)).alloc (.cells #[.int .i64 0, .slice none 0 0, .slice none 0 0, .slice none 0 0, .bool false, .slice none 0 0, .int .i64 0] 44) = W := ⟨_, rfl⟩
  rw [HWE] at X1 X2 B0 hsz ⊢
  clear HWE
  have hb := Below.new1 (w := W) (.cells #[.int .i64 c.txg, .slice A0 c.sets.length k0, .slice A1 c.ddt.length k1, .slice A2 c.parts.length k2, .bool c.dirty, .slice A3 c.safe.length k3, .int .i64 c.logn] 44)
  have hw1 : (W.alloc (.cells #[.int .i64 c.txg, .slice A0 c.sets.length k0, .slice A1 c.ddt.length k1, .slice A2 c.parts.length k2, .bool c.dirty, .slice A3 c.safe.length k3, .int .i64 c.logn] 44)).heap.size = w.heap.size + 3 := by simp [hsz]
  have Z3 := box_new W #[.int .i64 c.txg, .slice A0 c.sets.length k0, .slice A1 c.ddt.length k1, .slice A2 c.parts.length k2, .bool c.dirty, .slice A3 c.safe.length k3, .int .i64 c.logn] 44
  rw [hsz] at Z3
  have X3 := Lib.hid (show Box _ _ [.int .i64 c.txg, .slice A0 c.sets.length k0, .slice A1 c.ddt.length k1, .slice A2 c.parts.length k2, .bool c.dirty, .slice A3 c.safe.length k3, .int .i64 c.logn] from Z3)
  have Y1 := Lib.hid (X1.out.below hb X1.out.lt)
  have Y2 := Lib.hid (X2.out.below hb X2.out.lt)
  have B1 := Lib.hid (B0.out.trans (hb.mono B0.out.size))
  have hx3 : w.heap.size + 2 < (W.alloc (.cells #[.int .i64 c.txg, .slice A0 c.sets.length k0, .slice A1 c.ddt.length k1, .slice A2 c.parts.length k2, .bool c.dirty, .slice A3 c.safe.length k3, .int .i64 c.logn] 44)).heap.size := by omega
  go_upto_region 2 with (refine wpList_load_box rfl _ rfl aggCore rfl [.int .i64 c.txg, .slice A0 c.sets.length k0, .slice A1 c.ddt.length k1, .slice A2 c.parts.length k2, .bool c.dirty, .slice A3 c.safe.length k3, .int .i64 c.logn] rfl X1.out ?_)
  clear hb hw1 Z3 X1 X2 B0 hsz
  have X1 := Y1
  have X2 := Y2
  have B0 := B1
  clear Y1 Y2 B1
  generalize W.alloc (.cells #[.int .i64 c.txg, .slice A0 c.sets.length k0, .slice A1 c.ddt.length k1, .slice A2 c.parts.length k2, .bool c.dirty, .slice A3 c.safe.length k3, .int .i64 c.logn] 44) = W1 at X1 X2 X3 B0 hx3 ⊢
  have hn := Below.new1 (w := W1) (.cells #[] 89)
  have HSL := Lib.hid ((HR.out.s.below B0.out (fun b e => HR.out.ls b e)).below hn (fun b e => Nat.lt_of_lt_of_le (HR.out.ls b e) B0.out.size))
  have q := (X1.out.alloc (.cells #[] 89)).cell 1 rfl
  go_wp2_with (first | (at_builtin; refine wpList_append_freshB _ rfl _ _ 40 rfl W1.heap.size 89 i0 _ 31 264 Tryz.underlying40 hi0 hz00 hz01 hz02 rfl (by omega) (.slice (some ⟨W1.heap.size, 0, none⟩) 0 0) 0 [] rfl (World.ownsRow_made W1 #[] 0 (Nat.le_refl _) (by unfold maxLen; omega) rfl) (.slice A0 c.sets.length k0) c.sets.length (ccs c.sets) rfl HSL.out (ccs_oneK _) (by unfold maxLen; omega) (by omega) (by simp) ?_))
  intro E0 d0 w2 hown1 hg1 _
  have hb := (show Below W1.heap.size W1 w2 from ((Below.refl _ W1).alloc (Nat.le_refl _) _).grown hg1 (by simp) (by intro k hk; simp [Value.ownBlock] at hk; omega))
  have hown := (show w2.ownsRow W1.heap.size 89 31 (.slice E0 c.sets.length d0) c.sets.length (ccs c.sets) from by simpa using hown1)
  clear hown1 hg1 hn HSL q
  have O0 := Lib.hid (own_base hown (Nat.succ_le_of_lt hx3))
  have Y1 := Lib.hid (X1.out.below hb X1.out.lt)
  have Y2 := Lib.hid (X2.out.below hb X2.out.lt)
  have Y3 := Lib.hid (X3.out.below hb X3.out.lt)
  have B1 := Lib.hid (B0.out.trans (hb.mono B0.out.size))
  have hx4 : w.heap.size + 2 < w2.heap.size := Nat.lt_of_lt_of_le hx3 hb.size
  clear hb hown X1 X2 X3 B0 hx3
  have c3 := Y3.out.cell 1 rfl
  have f3 := Y3.out.open_ 1
  go_upto_region 3 with fail
  have P1 := putAt_setCell w2 (w.heap.size + 2) 1 (.slice E0 c.sets.length d0)
  have X1 := Lib.hid (P1.box (by omega) Y1.out)
  have X2 := Lib.hid (P1.box (by omega) Y2.out)
  have X3 := Lib.hid (show Box (w2.setCell ⟨w.heap.size + 2, 1, none⟩ (.slice E0 c.sets.length d0)) _ [.int .i64 c.txg, .slice E0 c.sets.length d0, .slice A1 c.ddt.length k1, .slice A2 c.parts.length k2, .bool c.dirty, .slice A3 c.safe.length k3, .int .i64 c.logn] from Y3.out.set 1 (.slice E0 c.sets.length d0))
  have B0 := Lib.hid (P1.below B1.out (by omega))
  have hx3 : w.heap.size + 2 < (w2.setCell ⟨w.heap.size + 2, 1, none⟩ (.slice E0 c.sets.length d0)).heap.size := by rw [P1.size]; exact hx4
  have O0n := Lib.hid (own_kept O0.out (w' := w2.setCell ⟨w.heap.size + 2, 1, none⟩ (.slice E0 c.sets.length d0)) (fun b e => P1.block b (by have := (O0.out.lt b e).1; omega)))
  clear O0
  have O0 := O0n
  clear O0n
  clear P1 Y1 Y2 Y3 B1 hx4 c3 f3
  generalize w2.setCell ⟨w.heap.size + 2, 1, none⟩ (.slice E0 c.sets.length d0) = V2 at X1 X2 X3 B0 hx3 O0 ⊢
  have q := X1.out.cell 2 rfl
  go_wp2_with fail
  refine (l5CopyB_any _ c.ddt _ (HR.out.d.below B0.out (fun b e => HR.out.ld b e)) (fun b e => Nat.lt_of_lt_of_le (HR.out.ld b e) B0.out.size) HS.out.d).mono ?_
  rintro e w3 ⟨ud, rfl, hown, hb⟩
  obtain ⟨_, E1, d1, rfl, -, -, -⟩ := sl_of_own hown
  clear q
  have U01 := Lib.hid (show ∀ b, (Value.slice E0 c.sets.length d0).ownBlock = some b → (Value.slice E1 c.ddt.length d1).ownBlock = some b → False from fun b e1 e2 => by have := (O0.out.lt b e1).2; have := (hown.lt b e2).1; omega)
  have O0n := Lib.hid (own_kept O0.out (fun b e => hb.block b (O0.out.lt b e).2))
  clear O0
  have O0 := O0n
  clear O0n
  have O1 := Lib.hid (own_base hown (Nat.succ_le_of_lt hx3))
  have Y1 := Lib.hid (X1.out.below hb X1.out.lt)
  have Y2 := Lib.hid (X2.out.below hb X2.out.lt)
  have Y3 := Lib.hid (X3.out.below hb X3.out.lt)
  have B1 := Lib.hid (B0.out.trans (hb.mono B0.out.size))
  have hx4 : w.heap.size + 2 < w3.heap.size := Nat.lt_of_lt_of_le hx3 hb.size
  clear hb hown X1 X2 X3 B0 hx3
  have c3 := Y3.out.cell 2 rfl
  have f3 := Y3.out.open_ 2
  go_upto_region 4 with fail
  have P1 := putAt_setCell w3 (w.heap.size + 2) 2 (.slice E1 c.ddt.length d1)
  have X1 := Lib.hid (P1.box (by omega) Y1.out)
  have X2 := Lib.hid (P1.box (by omega) Y2.out)
  have X3 := Lib.hid (show Box (w3.setCell ⟨w.heap.size + 2, 2, none⟩ (.slice E1 c.ddt.length d1)) _ [.int .i64 c.txg, .slice E0 c.sets.length d0, .slice E1 c.ddt.length d1, .slice A2 c.parts.length k2, .bool c.dirty, .slice A3 c.safe.length k3, .int .i64 c.logn] from Y3.out.set 2 (.slice E1 c.ddt.length d1))
  have B0 := Lib.hid (P1.below B1.out (by omega))
  have hx3 : w.heap.size + 2 < (w3.setCell ⟨w.heap.size + 2, 2, none⟩ (.slice E1 c.ddt.length d1)).heap.size := by rw [P1.size]; exact hx4
  have O0n := Lib.hid (own_kept O0.out (w' := w3.setCell ⟨w.heap.size + 2, 2, none⟩ (.slice E1 c.ddt.length d1)) (fun b e => P1.block b (by have := (O0.out.lt b e).1; omega)))
  clear O0
  have O0 := O0n
  clear O0n
  have O1n := Lib.hid (own_kept O1.out (w' := w3.setCell ⟨w.heap.size + 2, 2, none⟩ (.slice E1 c.ddt.length d1)) (fun b e => P1.block b (by have := (O1.out.lt b e).1; omega)))
  clear O1
  have O1 := O1n
  clear O1n
  clear P1 Y1 Y2 Y3 B1 hx4 c3 f3
  generalize w3.setCell ⟨w.heap.size + 2, 2, none⟩ (.slice E1 c.ddt.length d1) = V3 at X1 X2 X3 B0 hx3 O0 O1 ⊢
  have hn := Below.new1 (w := V3) (.cells #[] 86)
  have HSL := Lib.hid ((HR.out.p.below B0.out (fun b e => HR.out.lp b e)).below hn (fun b e => Nat.lt_of_lt_of_le (HR.out.lp b e) B0.out.size))
  have q := (X1.out.alloc (.cells #[] 86)).cell 3 rfl
  go_wp2_with (first | (at_builtin; refine wpList_append_freshB _ rfl _ _ 42 rfl V3.heap.size 86 i2 _ 3 24 Tryz.underlying42 hi2 hz20 hz21 hz22 rfl (by omega) (.slice (some ⟨V3.heap.size, 0, none⟩) 0 0) 0 [] rfl (World.ownsRow_made V3 #[] 0 (Nat.le_refl _) (by unfold maxLen; omega) rfl) (.slice A2 c.parts.length k2) c.parts.length (pcs c.parts) rfl HSL.out (pcs_one _) (by unfold maxLen; omega) (by omega) (by simp) ?_))
  intro E2 d2 w4 hown1 hg1 _
  have hb := (show Below V3.heap.size V3 w4 from ((Below.refl _ V3).alloc (Nat.le_refl _) _).grown hg1 (by simp) (by intro k hk; simp [Value.ownBlock] at hk; omega))
  have hown := (show w4.ownsRow V3.heap.size 86 3 (.slice E2 c.parts.length d2) c.parts.length (pcs c.parts) from by simpa using hown1)
  clear hown1 hg1 hn HSL q
  have U02 := Lib.hid (show ∀ b, (Value.slice E0 c.sets.length d0).ownBlock = some b → (Value.slice E2 c.parts.length d2).ownBlock = some b → False from fun b e1 e2 => by have := (O0.out.lt b e1).2; have := (hown.lt b e2).1; omega)
  have U12 := Lib.hid (show ∀ b, (Value.slice E1 c.ddt.length d1).ownBlock = some b → (Value.slice E2 c.parts.length d2).ownBlock = some b → False from fun b e1 e2 => by have := (O1.out.lt b e1).2; have := (hown.lt b e2).1; omega)
  have O0n := Lib.hid (own_kept O0.out (fun b e => hb.block b (O0.out.lt b e).2))
  clear O0
  have O0 := O0n
  clear O0n
  have O1n := Lib.hid (own_kept O1.out (fun b e => hb.block b (O1.out.lt b e).2))
  clear O1
  have O1 := O1n
  clear O1n
  have O2 := Lib.hid (own_base hown (Nat.succ_le_of_lt hx3))
  have Y1 := Lib.hid (X1.out.below hb X1.out.lt)
  have Y2 := Lib.hid (X2.out.below hb X2.out.lt)
  have Y3 := Lib.hid (X3.out.below hb X3.out.lt)
  have B1 := Lib.hid (B0.out.trans (hb.mono B0.out.size))
  have hx4 : w.heap.size + 2 < w4.heap.size := Nat.lt_of_lt_of_le hx3 hb.size
  clear hb hown X1 X2 X3 B0 hx3
  have c3 := Y3.out.cell 3 rfl
  have f3 := Y3.out.open_ 3
  go_upto_region 5 with fail
  have P1 := putAt_setCell w4 (w.heap.size + 2) 3 (.slice E2 c.parts.length d2)
  have X1 := Lib.hid (P1.box (by omega) Y1.out)
  have X2 := Lib.hid (P1.box (by omega) Y2.out)
  have X3 := Lib.hid (show Box (w4.setCell ⟨w.heap.size + 2, 3, none⟩ (.slice E2 c.parts.length d2)) _ [.int .i64 c.txg, .slice E0 c.sets.length d0, .slice E1 c.ddt.length d1, .slice E2 c.parts.length d2, .bool c.dirty, .slice A3 c.safe.length k3, .int .i64 c.logn] from Y3.out.set 3 (.slice E2 c.parts.length d2))
  have B0 := Lib.hid (P1.below B1.out (by omega))
  have hx3 : w.heap.size + 2 < (w4.setCell ⟨w.heap.size + 2, 3, none⟩ (.slice E2 c.parts.length d2)).heap.size := by rw [P1.size]; exact hx4
  have O0n := Lib.hid (own_kept O0.out (w' := w4.setCell ⟨w.heap.size + 2, 3, none⟩ (.slice E2 c.parts.length d2)) (fun b e => P1.block b (by have := (O0.out.lt b e).1; omega)))
  clear O0
  have O0 := O0n
  clear O0n
  have O1n := Lib.hid (own_kept O1.out (w' := w4.setCell ⟨w.heap.size + 2, 3, none⟩ (.slice E2 c.parts.length d2)) (fun b e => P1.block b (by have := (O1.out.lt b e).1; omega)))
  clear O1
  have O1 := O1n
  clear O1n
  have O2n := Lib.hid (own_kept O2.out (w' := w4.setCell ⟨w.heap.size + 2, 3, none⟩ (.slice E2 c.parts.length d2)) (fun b e => P1.block b (by have := (O2.out.lt b e).1; omega)))
  clear O2
  have O2 := O2n
  clear O2n
  clear P1 Y1 Y2 Y3 B1 hx4 c3 f3
  generalize w4.setCell ⟨w.heap.size + 2, 3, none⟩ (.slice E2 c.parts.length d2) = V4 at X1 X2 X3 B0 hx3 O0 O1 O2 ⊢
  have hn := Below.new1 (w := V4) (.cells #[] 3)
  have HSL := Lib.hid ((HR.out.i.below B0.out (fun b e => HR.out.li b e)).below hn (fun b e => Nat.lt_of_lt_of_le (HR.out.li b e) B0.out.size))
  have q := (X1.out.alloc (.cells #[] 3)).cell 5 rfl
  go_wp2_with (first | (at_builtin; refine wpList_append_freshB _ rfl _ _ 30 rfl V4.heap.size 3 i3 _ 1 8 Tryz.underlying30 hi3 hz30 hz31 hz32 rfl (by omega) (.slice (some ⟨V4.heap.size, 0, none⟩) 0 0) 0 [] rfl (World.ownsRow_made V4 #[] 0 (Nat.le_refl _) (by unfold maxLen; omega) rfl) (.slice A3 c.safe.length k3) c.safe.length (ics c.safe) rfl HSL.out (ics_oneK _) (by unfold maxLen; omega) (by omega) (by simp) ?_))
  intro E3 d3 w5 hown1 hg1 _
  have hb := (show Below V4.heap.size V4 w5 from ((Below.refl _ V4).alloc (Nat.le_refl _) _).grown hg1 (by simp) (by intro k hk; simp [Value.ownBlock] at hk; omega))
  have hown := (show w5.ownsRow V4.heap.size 3 1 (.slice E3 c.safe.length d3) c.safe.length (ics c.safe) from by simpa using hown1)
  clear hown1 hg1 hn HSL q
  have U03 := Lib.hid (show ∀ b, (Value.slice E0 c.sets.length d0).ownBlock = some b → (Value.slice E3 c.safe.length d3).ownBlock = some b → False from fun b e1 e2 => by have := (O0.out.lt b e1).2; have := (hown.lt b e2).1; omega)
  have U13 := Lib.hid (show ∀ b, (Value.slice E1 c.ddt.length d1).ownBlock = some b → (Value.slice E3 c.safe.length d3).ownBlock = some b → False from fun b e1 e2 => by have := (O1.out.lt b e1).2; have := (hown.lt b e2).1; omega)
  have U23 := Lib.hid (show ∀ b, (Value.slice E2 c.parts.length d2).ownBlock = some b → (Value.slice E3 c.safe.length d3).ownBlock = some b → False from fun b e1 e2 => by have := (O2.out.lt b e1).2; have := (hown.lt b e2).1; omega)
  have O0n := Lib.hid (own_kept O0.out (fun b e => hb.block b (O0.out.lt b e).2))
  clear O0
  have O0 := O0n
  clear O0n
  have O1n := Lib.hid (own_kept O1.out (fun b e => hb.block b (O1.out.lt b e).2))
  clear O1
  have O1 := O1n
  clear O1n
  have O2n := Lib.hid (own_kept O2.out (fun b e => hb.block b (O2.out.lt b e).2))
  clear O2
  have O2 := O2n
  clear O2n
  have O3 := Lib.hid (own_base hown (Nat.succ_le_of_lt hx3))
  have Y1 := Lib.hid (X1.out.below hb X1.out.lt)
  have Y2 := Lib.hid (X2.out.below hb X2.out.lt)
  have Y3 := Lib.hid (X3.out.below hb X3.out.lt)
  have B1 := Lib.hid (B0.out.trans (hb.mono B0.out.size))
  have hx4 : w.heap.size + 2 < w5.heap.size := Nat.lt_of_lt_of_le hx3 hb.size
  clear hb hown X1 X2 X3 B0 hx3
  have c3 := Y3.out.cell 5 rfl
  have f3 := Y3.out.open_ 5
  go_upto_region 6 with fail
  have P1 := putAt_setCell w5 (w.heap.size + 2) 5 (.slice E3 c.safe.length d3)
  have X1 := Lib.hid (P1.box (by omega) Y1.out)
  have X2 := Lib.hid (P1.box (by omega) Y2.out)
  have X3 := Lib.hid (show Box (w5.setCell ⟨w.heap.size + 2, 5, none⟩ (.slice E3 c.safe.length d3)) _ [.int .i64 c.txg, .slice E0 c.sets.length d0, .slice E1 c.ddt.length d1, .slice E2 c.parts.length d2, .bool c.dirty, .slice E3 c.safe.length d3, .int .i64 c.logn] from Y3.out.set 5 (.slice E3 c.safe.length d3))
  have B0 := Lib.hid (P1.below B1.out (by omega))
  have hx3 : w.heap.size + 2 < (w5.setCell ⟨w.heap.size + 2, 5, none⟩ (.slice E3 c.safe.length d3)).heap.size := by rw [P1.size]; exact hx4
  have O0n := Lib.hid (own_kept O0.out (w' := w5.setCell ⟨w.heap.size + 2, 5, none⟩ (.slice E3 c.safe.length d3)) (fun b e => P1.block b (by have := (O0.out.lt b e).1; omega)))
  clear O0
  have O0 := O0n
  clear O0n
  have O1n := Lib.hid (own_kept O1.out (w' := w5.setCell ⟨w.heap.size + 2, 5, none⟩ (.slice E3 c.safe.length d3)) (fun b e => P1.block b (by have := (O1.out.lt b e).1; omega)))
  clear O1
  have O1 := O1n
  clear O1n
  have O2n := Lib.hid (own_kept O2.out (w' := w5.setCell ⟨w.heap.size + 2, 5, none⟩ (.slice E3 c.safe.length d3)) (fun b e => P1.block b (by have := (O2.out.lt b e).1; omega)))
  clear O2
  have O2 := O2n
  clear O2n
  have O3n := Lib.hid (own_kept O3.out (w' := w5.setCell ⟨w.heap.size + 2, 5, none⟩ (.slice E3 c.safe.length d3)) (fun b e => P1.block b (by have := (O3.out.lt b e).1; omega)))
  clear O3
  have O3 := O3n
  clear O3n
  clear P1 Y1 Y2 Y3 B1 hx4 c3 f3
  generalize w5.setCell ⟨w.heap.size + 2, 5, none⟩ (.slice E3 c.safe.length d3) = V5 at X1 X2 X3 B0 hx3 O0 O1 O2 O3 ⊢
  go_wp2_with (first
    | (refine wpList_load_box rfl _ rfl aggCore rfl [.int .i64 c.txg, .slice E0 c.sets.length d0, .slice E1 c.ddt.length d1, .slice E2 c.parts.length d2, .bool c.dirty, .slice E3 c.safe.length d3, .int .i64 c.logn] rfl X3.out ?_)
    | (refine wpList_put_mid rfl _ _ rfl rfl aggCore rfl [.int .i64 c.txg, .slice E0 c.sets.length d0, .slice E1 c.ddt.length d1, .slice E2 c.parts.length d2, .bool c.dirty, .slice E3 c.safe.length d3, .int .i64 c.logn] rfl rfl (by simp [Value.oneCell']) X2.out [] [.int .i64 0, .slice none 0 0, .slice none 0 0, .slice none 0 0, .bool false, .slice none 0 0, .int .i64 0] [] [.int .i64 c.txg, .slice E0 c.sets.length d0, .slice E1 c.ddt.length d1, .slice E2 c.parts.length d2, .bool c.dirty, .slice E3 c.safe.length d3, .int .i64 c.logn] rfl rfl rfl rfl ?_))
  intro W4 P1 Z2
  go_wp2
  refine bodyPost_ret (results_box rfl _ (w.heap.size + 1) [.int .i64 c.txg, .slice E0 c.sets.length d0, .slice E1 c.ddt.length d1, .slice E2 c.parts.length d2, .bool c.dirty, .slice E3 c.safe.length d3, .int .i64 c.logn] aggCore rfl rfl Z2) rfl ⟨_, _, _, _, rfl, ⟨?_, ?_, ?_, ?_, U01.out, U02.out, U03.out, U12.out, U13.out, U23.out⟩, P1.below B0.out (by omega)⟩
  · exact own_base (own_kept O0.out (fun b e => P1.block b (by have := (O0.out.lt b e).1; omega))) (by omega)
  · exact own_base (own_kept O1.out (fun b e => P1.block b (by have := (O1.out.lt b e).1; omega))) (by omega)
  · exact own_base (own_kept O2.out (fun b e => P1.block b (by have := (O2.out.lt b e).1; omega))) (by omega)
  · exact own_base (own_kept O3.out (fun b e => P1.block b (by have := (O3.out.lt b e).1; omega))) (by omega)

theorem PoolOwn.one {w : World} {base : Nat} {v : PV} {p : PoolM} (h : PoolOwn w base v p) : ∀ u ∈ v.cells p, u.oneCell' = true := h.reads.one
theorem pcells_d {v : PV} {p : PoolM} (h : ∀ u ∈ v.cells p, u.oneCell' = true) : ∀ u ∈ v.dl, u.oneCell' = true := fun u hu => h u (show u ∈ v.dl ++ (v.kl p.core ++ [.bool p.up]) from List.mem_append_left _ hu)
theorem pcells_k {v : PV} {p : PoolM} (h : ∀ u ∈ v.cells p, u.oneCell' = true) : ∀ u ∈ v.kl p.core, u.oneCell' = true := fun u hu => h u (show u ∈ v.dl ++ (v.kl p.core ++ [.bool p.up]) from List.mem_append_right _ (List.mem_append_left _ hu))

set_option maxHeartbeats 4000000 in
theorem poolCopy_any (v : PV) (p : PoolM) (w : World) (h : PoolR w v p) (hs : PoolShort p) :
    Calls Tryz.prog 34 #[v.val p] w (NewPool w p) := by
  obtain ⟨b1, b2, hsz, hB⟩ := box2 w #[v.v0, v.v1, v.vl, .int .i64 p.core.txg, v.vs, v.vd, v.vp, .bool p.core.dirty, v.vi, .int .i64 p.core.logn, .bool p.up] #[.slice none 0 0, .slice none 0 0, .slice none 0 0, .int .i64 0, .slice none 0 0, .slice none 0 0, .slice none 0 0, .bool false, .slice none 0 0, .int .i64 0, .bool false] 46 46
  have X1 := Lib.hid (show Box _ _ (v.cells p) from b1)
  have X2 := Lib.hid (show Box _ _ [.slice none 0 0, .slice none 0 0, .slice none 0 0, .int .i64 0, .slice none 0 0, .slice none 0 0, .slice none 0 0, .bool false, .slice none 0 0, .int .i64 0, .bool false] from b2)
  have B0 := Lib.hid hB
  have HR := Lib.hid (h.below hB)
  have HS := Lib.hid hs
  clear b1 b2 hB hsz h hs
  go_enter Tryz.func34, Tryz.ntmps34
  go_upto_region 1 with fail
  obtain ⟨W, HWE⟩ : ∃ W, (w.alloc (.cells #[v.v0, v.v1, v.vl, .int .i64 p.core.txg, v.vs, v.vd, v.vp, .bool p.core.dirty, v.vi, .int .i64 p.core.logn, .bool p.up] 46)).alloc (.cells #[.slice none 0 0, .slice none 0 0, .slice none 0 0, .int .i64 0, .slice none 0 0, .slice none 0 0, .slice none 0 0, .bool false, .slice none 0 0, .int .i64 0, .bool false] 46) = W := ⟨_, rfl⟩
  rw [HWE] at X1 X2 B0 HR ⊢
  clear HWE
  go_cut [] from 3 to 11 (fun wx => ∃ u : PV, Hid (Box wx w.heap.size (u.cells p)) ∧ Hid (Box wx (w.heap.size + 1) [.slice none 0 0, .slice none 0 0, .slice none 0 0, .int .i64 0, .slice none 0 0, .slice none 0 0, .slice none 0 0, .bool false, .slice none 0 0, .int .i64 0, .bool false]) ∧ Hid (Below w.heap.size w wx) ∧ Hid (PoolOwn wx (w.heap.size + 1 + 1) u p))
  case first =>
    refine wp_region_held_drew (S := fun _ => True) (by kernel_rfl) trivial (fun hHeld => ?_)
    have Y1 := Lib.hid X1.out.drew
    have Y2 := Lib.hid X2.out.drew
    have B1 := Lib.hid B0.out.drew
    have hx3 : w.heap.size + 1 < W.drew.heap.size := X2.out.lt
    have HR1 := Lib.hid HR.out.drew
    clear X1 X2 B0 HR
    generalize W.drew = wd at hHeld Y1 Y2 B1 HR1 hx3 ⊢
    refine wpAnyH_take (i := 0) (v := ?_) rfl (by kernel_rfl) (by kernel_rfl) (by kernel_rfl) (fun _ _ _ h => h) (Or.inl ⟨by rfl, ?_⟩) (by assumption) ?_
    rotate_left
    · (intro w' hSw; go_simp; try with_reducible rfl)
    try simp only [Act.put]
    refine wpAnyH_take (i := 4) (v := ?_) rfl (by kernel_rfl) (by kernel_rfl) (by kernel_rfl) (fun _ _ _ h => h) (Or.inl ⟨by rfl, ?_⟩) (by assumption) ?_
    rotate_left
    · (intro w' hSw; go_simp; try with_reducible rfl)
    try simp only [Act.put]
    refine wpAnyH_ready (rs := [1, 5]) (by kernel_rfl) (by simp) ?_
    refine AllReadyH.cons rfl (fun K hK => ?_) (AllReadyH.cons rfl (fun K hK => ?_) (AllReadyH.nil))
    · have hway : True := trivial
      refine Eq.mpr (if_pos (by rfl)) ?_
      refine wp_load_cs _ rfl aggDiskI rfl v.dl rfl (PV.diskAt Y1.out) ?_
      refine hK.out _ _ trivial (fun hHeld1 => ?_)
      clear hK K
      try simp only [Act.put]
      refine wpAnyH_ready (rs := [2, 5]) (by kernel_rfl) (by simp) ?_
      refine AllReadyH.cons rfl (fun K hK => ?_) (AllReadyH.cons rfl (fun K hK => ?_) (AllReadyH.nil))
      · have hway : True := trivial
        go_simp
        go_at_call 74
        refine (diskCopy_any _ _ _ p.disk _ HR1.out.d HS.out.d).mono ?_
        rintro e wt2 ⟨u0, u1, ul, rfl, hown, hb⟩
        obtain ⟨G0, g0, G1, g1, Gl, gl, rfl, rfl, rfl⟩ := hown.forms
        have OD := Lib.hid (hown.base (Nat.succ_le_of_lt hx3))
        have OL := Lib.hid (show ∀ b, DTurns (.slice G0 p.disk.s0.length g0) (.slice G1 p.disk.s1.length g1) (.slice Gl p.disk.late.length gl) b → b < wt2.heap.size from fun b e => (hown.turns e).2)
        clear hown
        have Z1 := Lib.hid (Y1.out.below hb Y1.out.lt)
        have Z2 := Lib.hid (Y2.out.below hb Y2.out.lt)
        have B2 := Lib.hid (B1.out.trans (hb.mono B1.out.size))
        have HR2 := Lib.hid (HR1.out.below hb)
        have hx4 : w.heap.size + 1 < wt2.heap.size := Nat.lt_of_lt_of_le hx3 hb.size
        clear hb Y1 Y2 B1 HR1 hx3
        have Y1 := Z1
        have Y2 := Z2
        have B1 := B2
        have HR1 := HR2
        have hx3 := hx4
        clear Z1 Z2 B2 HR2 hx4
        go_wp2_with fail
        refine hK.out _ _ trivial (fun hHeld2 => ?_)
        clear hK K
        try simp only [Act.put]
        refine wpAnyH_ready (rs := [3, 5]) (by kernel_rfl) (by simp) ?_
        refine AllReadyH.cons rfl (fun K hK => ?_) (AllReadyH.cons rfl (fun K hK => ?_) (AllReadyH.nil))
        · have hway : True := trivial
          go_simp
          go_at_call 75
          refine (disk_any G0 G1 Gl _ g0 _ g1 _ gl _).mono ?_
          rintro e wt3 ⟨rfl, hb⟩
          have OLn := Lib.hid (fun b e => Nat.lt_of_lt_of_le (OL.out b e) hb.size)
          clear OL
          have OL := OLn
          clear OLn
          have Z1 := Lib.hid (Y1.out.below hb Y1.out.lt)
          have Z2 := Lib.hid (Y2.out.below hb Y2.out.lt)
          have B2 := Lib.hid (B1.out.trans (hb.mono B1.out.size))
          have HR2 := Lib.hid (HR1.out.below hb)
          have hx4 : w.heap.size + 1 < wt3.heap.size := Nat.lt_of_lt_of_le hx3 hb.size
          have ODn := Lib.hid (OD.out.below hb)
          clear OD
          have OD := ODn
          clear ODn
          clear hb Y1 Y2 B1 HR1 hx3
          have Y1 := Z1
          have Y2 := Z2
          have B1 := B2
          have HR1 := HR2
          have hx3 := hx4
          clear Z1 Z2 B2 HR2 hx4
          go_wp2_with fail
          refine hK.out _ _ trivial (fun hHeld3 => ?_)
          clear hK K
          try simp only [Act.put]
          refine wpAnyH_ready (rs := [5]) (by kernel_rfl) (by simp) ?_
          refine AllReadyH.cons rfl (fun K hK => ?_) (AllReadyH.nil)
          refine Eq.mpr (if_pos (by rfl)) ?_
          refine wp_load_cs _ rfl aggCore rfl (v.kl p.core) rfl (PV.coreAt Y1.out) ?_
          refine hK.out _ _ trivial (fun hHeld4 => ?_)
          clear hK K
          try simp only [Act.put]
          refine wpAnyH_take (i := 7) (v := ?_) rfl (by kernel_rfl) (by kernel_rfl) (by kernel_rfl) (fun _ _ _ h => h) (Or.inl ⟨by rfl, ?_⟩) (by assumption) ?_
          rotate_left
          · (intro w' hSw; go_simp; try with_reducible rfl)
          try simp only [Act.put]
          refine wpAnyH_ready (rs := [6]) (by kernel_rfl) (by simp) ?_
          refine AllReadyH.cons rfl (fun K hK => ?_) (AllReadyH.nil)
          go_simp
          go_at_call 44
          refine (coreCopy_any _ _ _ _ p.core _ HR1.out.c HS.out.c).mono ?_
          rintro e wt5 ⟨us, ud, up_, ui, rfl, hown, hb⟩
          have OC := Lib.hid (hown.base (Nat.succ_le_of_lt hx3))
          have OX := Lib.hid (show ∀ b, DTurns (.slice G0 p.disk.s0.length g0) (.slice G1 p.disk.s1.length g1) (.slice Gl p.disk.late.length gl) b → CTurns us ud up_ ui b → False from fun b e1 e2 => by have := OL.out b e1; have := (hown.turns e2).1; omega)
          clear hown
          have Z1 := Lib.hid (Y1.out.below hb Y1.out.lt)
          have Z2 := Lib.hid (Y2.out.below hb Y2.out.lt)
          have B2 := Lib.hid (B1.out.trans (hb.mono B1.out.size))
          have HR2 := Lib.hid (HR1.out.below hb)
          have hx4 : w.heap.size + 1 < wt5.heap.size := Nat.lt_of_lt_of_le hx3 hb.size
          have ODn := Lib.hid (OD.out.below hb)
          clear OD
          have OD := ODn
          clear ODn
          clear hb Y1 Y2 B1 HR1 hx3
          have Y1 := Z1
          have Y2 := Z2
          have B1 := B2
          have HR1 := HR2
          have hx3 := hx4
          clear Z1 Z2 B2 HR2 hx4
          go_wp2_with fail
          have OP := Lib.hid (show PoolOwn wt5 (w.heap.size + 1 + 1) ⟨.slice G0 p.disk.s0.length g0, .slice G1 p.disk.s1.length g1, .slice Gl p.disk.late.length gl, us, ud, up_, ui⟩ p from ⟨OD.out, OC.out, OX.out⟩)
          have ON := Lib.hid OP.out.one
          clear OD OC OX OL HR1
          refine hK.out _ _ trivial (fun hHeld5 => ?_)
          clear hK K
          try simp only [Act.put]
          refine wpAnyH_ready (rs := [8]) (by kernel_rfl) (by simp) ?_
          refine AllReadyH.cons rfl (fun K hK => ?_) (AllReadyH.nil)
          refine Eq.mpr (if_pos (by rfl)) ?_
          refine wp_put_mid _ _ rfl rfl aggDiskI rfl [.slice G0 p.disk.s0.length g0, .slice G1 p.disk.s1.length g1, .slice Gl p.disk.late.length gl] rfl rfl (by simp [Value.oneCell']) Y1.out [] v.dl (v.kl p.core ++ [.bool p.up]) ([.slice G0 p.disk.s0.length g0, .slice G1 p.disk.s1.length g1, .slice Gl p.disk.late.length gl] ++ v.kl p.core ++ [.bool p.up]) rfl rfl rfl rfl ?_
          intro ws6 P1 Z1
          have hx4 : w.heap.size + 1 < ws6.heap.size := by rw [P1.size]; exact hx3
          have OPn := Lib.hid (OP.out.put P1 (by omega))
          have Z2 := Lib.hid (P1.box (by omega) Y2.out)
          have B2 := Lib.hid (P1.below B1.out (Nat.le_refl _))
          clear P1 Y1 Y2 B1 hx3 OP
          have Y1 := Lib.hid Z1
          have Y2 := Z2
          have B1 := B2
          have hx3 := hx4
          have OP := OPn
          clear Z1 Z2 B2 hx4 OPn
          refine hK.out _ _ trivial (fun hHeld6 => ?_)
          clear hK K
          try simp only [Act.put]
          refine wpAnyH_take (i := 9) (v := ?_) rfl (by kernel_rfl) (by kernel_rfl) (by kernel_rfl) (fun _ _ _ h => h) (Or.inl ⟨by rfl, ?_⟩) (by assumption) ?_
          rotate_left
          · (intro w' hSw; go_simp; try with_reducible rfl)
          try simp only [Act.put]
          refine wpAnyH_ready (rs := [10]) (by kernel_rfl) (by simp) ?_
          refine AllReadyH.cons rfl (fun K hK => ?_) (AllReadyH.nil)
          refine Eq.mpr (if_pos (by rfl)) ?_
          refine wp_put_mid _ _ rfl rfl aggCore rfl ((PV.mk (.slice G0 p.disk.s0.length g0) (.slice G1 p.disk.s1.length g1) (.slice Gl p.disk.late.length gl) us ud up_ ui).kl p.core) rfl rfl (pcells_k ON.out) Y1.out [.slice G0 p.disk.s0.length g0, .slice G1 p.disk.s1.length g1, .slice Gl p.disk.late.length gl] (v.kl p.core) [.bool p.up] ((PV.mk (.slice G0 p.disk.s0.length g0) (.slice G1 p.disk.s1.length g1) (.slice Gl p.disk.late.length gl) us ud up_ ui).cells p) rfl rfl rfl rfl ?_
          intro ws7 P1 Z1
          have hx4 : w.heap.size + 1 < ws7.heap.size := by rw [P1.size]; exact hx3
          have OPn := Lib.hid (OP.out.put P1 (by omega))
          have Z2 := Lib.hid (P1.box (by omega) Y2.out)
          have B2 := Lib.hid (P1.below B1.out (Nat.le_refl _))
          clear P1 Y1 Y2 B1 hx3 OP
          have Y1 := Lib.hid Z1
          have Y2 := Z2
          have B1 := B2
          have hx3 := hx4
          have OP := OPn
          clear Z1 Z2 B2 hx4 OPn
          refine hK.out _ _ trivial (fun hHeld7 => ?_)
          clear hK K
          try simp only [Act.put]
          refine wpAnyH_done (by kernel_rfl) ?_ _
          go_simp
          go_wp2_with fail
          go_meet
          exact ⟨_, Y1, Y2, B1, OP⟩
        · have hway : True := trivial
          refine Eq.mpr (if_pos (by rfl)) ?_
          refine wp_load_cs _ rfl aggCore rfl (v.kl p.core) rfl (PV.coreAt Y1.out) ?_
          refine hK.out _ _ trivial (fun hHeld3 => ?_)
          clear hK K
          try simp only [Act.put]
          refine wpAnyH_ready (rs := [3]) (by kernel_rfl) (by simp) ?_
          refine AllReadyH.cons rfl (fun K hK => ?_) (AllReadyH.nil)
          go_simp
          go_at_call 75
          refine (disk_any G0 G1 Gl _ g0 _ g1 _ gl _).mono ?_
          rintro e wt4 ⟨rfl, hb⟩
          have OLn := Lib.hid (fun b e => Nat.lt_of_lt_of_le (OL.out b e) hb.size)
          clear OL
          have OL := OLn
          clear OLn
          have Z1 := Lib.hid (Y1.out.below hb Y1.out.lt)
          have Z2 := Lib.hid (Y2.out.below hb Y2.out.lt)
          have B2 := Lib.hid (B1.out.trans (hb.mono B1.out.size))
          have HR2 := Lib.hid (HR1.out.below hb)
          have hx4 : w.heap.size + 1 < wt4.heap.size := Nat.lt_of_lt_of_le hx3 hb.size
          have ODn := Lib.hid (OD.out.below hb)
          clear OD
          have OD := ODn
          clear ODn
          clear hb Y1 Y2 B1 HR1 hx3
          have Y1 := Z1
          have Y2 := Z2
          have B1 := B2
          have HR1 := HR2
          have hx3 := hx4
          clear Z1 Z2 B2 HR2 hx4
          go_wp2_with fail
          refine hK.out _ _ trivial (fun hHeld4 => ?_)
          clear hK K
          try simp only [Act.put]
          refine wpAnyH_take (i := 7) (v := ?_) rfl (by kernel_rfl) (by kernel_rfl) (by kernel_rfl) (fun _ _ _ h => h) (Or.inl ⟨by rfl, ?_⟩) (by assumption) ?_
          rotate_left
          · (intro w' hSw; go_simp; try with_reducible rfl)
          try simp only [Act.put]
          refine wpAnyH_ready (rs := [6]) (by kernel_rfl) (by simp) ?_
          refine AllReadyH.cons rfl (fun K hK => ?_) (AllReadyH.nil)
          go_simp
          go_at_call 44
          refine (coreCopy_any _ _ _ _ p.core _ HR1.out.c HS.out.c).mono ?_
          rintro e wt5 ⟨us, ud, up_, ui, rfl, hown, hb⟩
          have OC := Lib.hid (hown.base (Nat.succ_le_of_lt hx3))
          have OX := Lib.hid (show ∀ b, DTurns (.slice G0 p.disk.s0.length g0) (.slice G1 p.disk.s1.length g1) (.slice Gl p.disk.late.length gl) b → CTurns us ud up_ ui b → False from fun b e1 e2 => by have := OL.out b e1; have := (hown.turns e2).1; omega)
          clear hown
          have Z1 := Lib.hid (Y1.out.below hb Y1.out.lt)
          have Z2 := Lib.hid (Y2.out.below hb Y2.out.lt)
          have B2 := Lib.hid (B1.out.trans (hb.mono B1.out.size))
          have HR2 := Lib.hid (HR1.out.below hb)
          have hx4 : w.heap.size + 1 < wt5.heap.size := Nat.lt_of_lt_of_le hx3 hb.size
          have ODn := Lib.hid (OD.out.below hb)
          clear OD
          have OD := ODn
          clear ODn
          clear hb Y1 Y2 B1 HR1 hx3
          have Y1 := Z1
          have Y2 := Z2
          have B1 := B2
          have HR1 := HR2
          have hx3 := hx4
          clear Z1 Z2 B2 HR2 hx4
          go_wp2_with fail
          have OP := Lib.hid (show PoolOwn wt5 (w.heap.size + 1 + 1) ⟨.slice G0 p.disk.s0.length g0, .slice G1 p.disk.s1.length g1, .slice Gl p.disk.late.length gl, us, ud, up_, ui⟩ p from ⟨OD.out, OC.out, OX.out⟩)
          have ON := Lib.hid OP.out.one
          clear OD OC OX OL HR1
          refine hK.out _ _ trivial (fun hHeld5 => ?_)
          clear hK K
          try simp only [Act.put]
          refine wpAnyH_ready (rs := [8]) (by kernel_rfl) (by simp) ?_
          refine AllReadyH.cons rfl (fun K hK => ?_) (AllReadyH.nil)
          refine Eq.mpr (if_pos (by rfl)) ?_
          refine wp_put_mid _ _ rfl rfl aggDiskI rfl [.slice G0 p.disk.s0.length g0, .slice G1 p.disk.s1.length g1, .slice Gl p.disk.late.length gl] rfl rfl (by simp [Value.oneCell']) Y1.out [] v.dl (v.kl p.core ++ [.bool p.up]) ([.slice G0 p.disk.s0.length g0, .slice G1 p.disk.s1.length g1, .slice Gl p.disk.late.length gl] ++ v.kl p.core ++ [.bool p.up]) rfl rfl rfl rfl ?_
          intro ws6 P1 Z1
          have hx4 : w.heap.size + 1 < ws6.heap.size := by rw [P1.size]; exact hx3
          have OPn := Lib.hid (OP.out.put P1 (by omega))
          have Z2 := Lib.hid (P1.box (by omega) Y2.out)
          have B2 := Lib.hid (P1.below B1.out (Nat.le_refl _))
          clear P1 Y1 Y2 B1 hx3 OP
          have Y1 := Lib.hid Z1
          have Y2 := Z2
          have B1 := B2
          have hx3 := hx4
          have OP := OPn
          clear Z1 Z2 B2 hx4 OPn
          refine hK.out _ _ trivial (fun hHeld6 => ?_)
          clear hK K
          try simp only [Act.put]
          refine wpAnyH_take (i := 9) (v := ?_) rfl (by kernel_rfl) (by kernel_rfl) (by kernel_rfl) (fun _ _ _ h => h) (Or.inl ⟨by rfl, ?_⟩) (by assumption) ?_
          rotate_left
          · (intro w' hSw; go_simp; try with_reducible rfl)
          try simp only [Act.put]
          refine wpAnyH_ready (rs := [10]) (by kernel_rfl) (by simp) ?_
          refine AllReadyH.cons rfl (fun K hK => ?_) (AllReadyH.nil)
          refine Eq.mpr (if_pos (by rfl)) ?_
          refine wp_put_mid _ _ rfl rfl aggCore rfl ((PV.mk (.slice G0 p.disk.s0.length g0) (.slice G1 p.disk.s1.length g1) (.slice Gl p.disk.late.length gl) us ud up_ ui).kl p.core) rfl rfl (pcells_k ON.out) Y1.out [.slice G0 p.disk.s0.length g0, .slice G1 p.disk.s1.length g1, .slice Gl p.disk.late.length gl] (v.kl p.core) [.bool p.up] ((PV.mk (.slice G0 p.disk.s0.length g0) (.slice G1 p.disk.s1.length g1) (.slice Gl p.disk.late.length gl) us ud up_ ui).cells p) rfl rfl rfl rfl ?_
          intro ws7 P1 Z1
          have hx4 : w.heap.size + 1 < ws7.heap.size := by rw [P1.size]; exact hx3
          have OPn := Lib.hid (OP.out.put P1 (by omega))
          have Z2 := Lib.hid (P1.box (by omega) Y2.out)
          have B2 := Lib.hid (P1.below B1.out (Nat.le_refl _))
          clear P1 Y1 Y2 B1 hx3 OP
          have Y1 := Lib.hid Z1
          have Y2 := Z2
          have B1 := B2
          have hx3 := hx4
          have OP := OPn
          clear Z1 Z2 B2 hx4 OPn
          refine hK.out _ _ trivial (fun hHeld7 => ?_)
          clear hK K
          try simp only [Act.put]
          refine wpAnyH_done (by kernel_rfl) ?_ _
          go_simp
          go_wp2_with fail
          go_meet
          exact ⟨_, Y1, Y2, B1, OP⟩
      · have hway : True := trivial
        refine Eq.mpr (if_pos (by rfl)) ?_
        refine wp_load_cs _ rfl aggCore rfl (v.kl p.core) rfl (PV.coreAt Y1.out) ?_
        refine hK.out _ _ trivial (fun hHeld2 => ?_)
        clear hK K
        try simp only [Act.put]
        refine wpAnyH_ready (rs := [2]) (by kernel_rfl) (by simp) ?_
        refine AllReadyH.cons rfl (fun K hK => ?_) (AllReadyH.nil)
        go_simp
        go_at_call 74
        refine (diskCopy_any _ _ _ p.disk _ HR1.out.d HS.out.d).mono ?_
        rintro e wt3 ⟨u0, u1, ul, rfl, hown, hb⟩
        obtain ⟨G0, g0, G1, g1, Gl, gl, rfl, rfl, rfl⟩ := hown.forms
        have OD := Lib.hid (hown.base (Nat.succ_le_of_lt hx3))
        have OL := Lib.hid (show ∀ b, DTurns (.slice G0 p.disk.s0.length g0) (.slice G1 p.disk.s1.length g1) (.slice Gl p.disk.late.length gl) b → b < wt3.heap.size from fun b e => (hown.turns e).2)
        clear hown
        have Z1 := Lib.hid (Y1.out.below hb Y1.out.lt)
        have Z2 := Lib.hid (Y2.out.below hb Y2.out.lt)
        have B2 := Lib.hid (B1.out.trans (hb.mono B1.out.size))
        have HR2 := Lib.hid (HR1.out.below hb)
        have hx4 : w.heap.size + 1 < wt3.heap.size := Nat.lt_of_lt_of_le hx3 hb.size
        clear hb Y1 Y2 B1 HR1 hx3
        have Y1 := Z1
        have Y2 := Z2
        have B1 := B2
        have HR1 := HR2
        have hx3 := hx4
        clear Z1 Z2 B2 HR2 hx4
        go_wp2_with fail
        refine hK.out _ _ trivial (fun hHeld3 => ?_)
        clear hK K
        try simp only [Act.put]
        refine wpAnyH_ready (rs := [3]) (by kernel_rfl) (by simp) ?_
        refine AllReadyH.cons rfl (fun K hK => ?_) (AllReadyH.nil)
        go_simp
        go_at_call 75
        refine (disk_any G0 G1 Gl _ g0 _ g1 _ gl _).mono ?_
        rintro e wt4 ⟨rfl, hb⟩
        have OLn := Lib.hid (fun b e => Nat.lt_of_lt_of_le (OL.out b e) hb.size)
        clear OL
        have OL := OLn
        clear OLn
        have Z1 := Lib.hid (Y1.out.below hb Y1.out.lt)
        have Z2 := Lib.hid (Y2.out.below hb Y2.out.lt)
        have B2 := Lib.hid (B1.out.trans (hb.mono B1.out.size))
        have HR2 := Lib.hid (HR1.out.below hb)
        have hx4 : w.heap.size + 1 < wt4.heap.size := Nat.lt_of_lt_of_le hx3 hb.size
        have ODn := Lib.hid (OD.out.below hb)
        clear OD
        have OD := ODn
        clear ODn
        clear hb Y1 Y2 B1 HR1 hx3
        have Y1 := Z1
        have Y2 := Z2
        have B1 := B2
        have HR1 := HR2
        have hx3 := hx4
        clear Z1 Z2 B2 HR2 hx4
        go_wp2_with fail
        refine hK.out _ _ trivial (fun hHeld4 => ?_)
        clear hK K
        try simp only [Act.put]
        refine wpAnyH_take (i := 7) (v := ?_) rfl (by kernel_rfl) (by kernel_rfl) (by kernel_rfl) (fun _ _ _ h => h) (Or.inl ⟨by rfl, ?_⟩) (by assumption) ?_
        rotate_left
        · (intro w' hSw; go_simp; try with_reducible rfl)
        try simp only [Act.put]
        refine wpAnyH_ready (rs := [6]) (by kernel_rfl) (by simp) ?_
        refine AllReadyH.cons rfl (fun K hK => ?_) (AllReadyH.nil)
        go_simp
        go_at_call 44
        refine (coreCopy_any _ _ _ _ p.core _ HR1.out.c HS.out.c).mono ?_
        rintro e wt5 ⟨us, ud, up_, ui, rfl, hown, hb⟩
        have OC := Lib.hid (hown.base (Nat.succ_le_of_lt hx3))
        have OX := Lib.hid (show ∀ b, DTurns (.slice G0 p.disk.s0.length g0) (.slice G1 p.disk.s1.length g1) (.slice Gl p.disk.late.length gl) b → CTurns us ud up_ ui b → False from fun b e1 e2 => by have := OL.out b e1; have := (hown.turns e2).1; omega)
        clear hown
        have Z1 := Lib.hid (Y1.out.below hb Y1.out.lt)
        have Z2 := Lib.hid (Y2.out.below hb Y2.out.lt)
        have B2 := Lib.hid (B1.out.trans (hb.mono B1.out.size))
        have HR2 := Lib.hid (HR1.out.below hb)
        have hx4 : w.heap.size + 1 < wt5.heap.size := Nat.lt_of_lt_of_le hx3 hb.size
        have ODn := Lib.hid (OD.out.below hb)
        clear OD
        have OD := ODn
        clear ODn
        clear hb Y1 Y2 B1 HR1 hx3
        have Y1 := Z1
        have Y2 := Z2
        have B1 := B2
        have HR1 := HR2
        have hx3 := hx4
        clear Z1 Z2 B2 HR2 hx4
        go_wp2_with fail
        have OP := Lib.hid (show PoolOwn wt5 (w.heap.size + 1 + 1) ⟨.slice G0 p.disk.s0.length g0, .slice G1 p.disk.s1.length g1, .slice Gl p.disk.late.length gl, us, ud, up_, ui⟩ p from ⟨OD.out, OC.out, OX.out⟩)
        have ON := Lib.hid OP.out.one
        clear OD OC OX OL HR1
        refine hK.out _ _ trivial (fun hHeld5 => ?_)
        clear hK K
        try simp only [Act.put]
        refine wpAnyH_ready (rs := [8]) (by kernel_rfl) (by simp) ?_
        refine AllReadyH.cons rfl (fun K hK => ?_) (AllReadyH.nil)
        refine Eq.mpr (if_pos (by rfl)) ?_
        refine wp_put_mid _ _ rfl rfl aggDiskI rfl [.slice G0 p.disk.s0.length g0, .slice G1 p.disk.s1.length g1, .slice Gl p.disk.late.length gl] rfl rfl (by simp [Value.oneCell']) Y1.out [] v.dl (v.kl p.core ++ [.bool p.up]) ([.slice G0 p.disk.s0.length g0, .slice G1 p.disk.s1.length g1, .slice Gl p.disk.late.length gl] ++ v.kl p.core ++ [.bool p.up]) rfl rfl rfl rfl ?_
        intro ws6 P1 Z1
        have hx4 : w.heap.size + 1 < ws6.heap.size := by rw [P1.size]; exact hx3
        have OPn := Lib.hid (OP.out.put P1 (by omega))
        have Z2 := Lib.hid (P1.box (by omega) Y2.out)
        have B2 := Lib.hid (P1.below B1.out (Nat.le_refl _))
        clear P1 Y1 Y2 B1 hx3 OP
        have Y1 := Lib.hid Z1
        have Y2 := Z2
        have B1 := B2
        have hx3 := hx4
        have OP := OPn
        clear Z1 Z2 B2 hx4 OPn
        refine hK.out _ _ trivial (fun hHeld6 => ?_)
        clear hK K
        try simp only [Act.put]
        refine wpAnyH_take (i := 9) (v := ?_) rfl (by kernel_rfl) (by kernel_rfl) (by kernel_rfl) (fun _ _ _ h => h) (Or.inl ⟨by rfl, ?_⟩) (by assumption) ?_
        rotate_left
        · (intro w' hSw; go_simp; try with_reducible rfl)
        try simp only [Act.put]
        refine wpAnyH_ready (rs := [10]) (by kernel_rfl) (by simp) ?_
        refine AllReadyH.cons rfl (fun K hK => ?_) (AllReadyH.nil)
        refine Eq.mpr (if_pos (by rfl)) ?_
        refine wp_put_mid _ _ rfl rfl aggCore rfl ((PV.mk (.slice G0 p.disk.s0.length g0) (.slice G1 p.disk.s1.length g1) (.slice Gl p.disk.late.length gl) us ud up_ ui).kl p.core) rfl rfl (pcells_k ON.out) Y1.out [.slice G0 p.disk.s0.length g0, .slice G1 p.disk.s1.length g1, .slice Gl p.disk.late.length gl] (v.kl p.core) [.bool p.up] ((PV.mk (.slice G0 p.disk.s0.length g0) (.slice G1 p.disk.s1.length g1) (.slice Gl p.disk.late.length gl) us ud up_ ui).cells p) rfl rfl rfl rfl ?_
        intro ws7 P1 Z1
        have hx4 : w.heap.size + 1 < ws7.heap.size := by rw [P1.size]; exact hx3
        have OPn := Lib.hid (OP.out.put P1 (by omega))
        have Z2 := Lib.hid (P1.box (by omega) Y2.out)
        have B2 := Lib.hid (P1.below B1.out (Nat.le_refl _))
        clear P1 Y1 Y2 B1 hx3 OP
        have Y1 := Lib.hid Z1
        have Y2 := Z2
        have B1 := B2
        have hx3 := hx4
        have OP := OPn
        clear Z1 Z2 B2 hx4 OPn
        refine hK.out _ _ trivial (fun hHeld7 => ?_)
        clear hK K
        try simp only [Act.put]
        refine wpAnyH_done (by kernel_rfl) ?_ _
        go_simp
        go_wp2_with fail
        go_meet
        exact ⟨_, Y1, Y2, B1, OP⟩
    · have hway : True := trivial
      refine Eq.mpr (if_pos (by rfl)) ?_
      refine wp_load_cs _ rfl aggCore rfl (v.kl p.core) rfl (PV.coreAt Y1.out) ?_
      refine hK.out _ _ trivial (fun hHeld1 => ?_)
      clear hK K
      try simp only [Act.put]
      refine wpAnyH_ready (rs := [1]) (by kernel_rfl) (by simp) ?_
      refine AllReadyH.cons rfl (fun K hK => ?_) (AllReadyH.nil)
      refine Eq.mpr (if_pos (by rfl)) ?_
      refine wp_load_cs _ rfl aggDiskI rfl v.dl rfl (PV.diskAt Y1.out) ?_
      refine hK.out _ _ trivial (fun hHeld2 => ?_)
      clear hK K
      try simp only [Act.put]
      refine wpAnyH_ready (rs := [2]) (by kernel_rfl) (by simp) ?_
      refine AllReadyH.cons rfl (fun K hK => ?_) (AllReadyH.nil)
      go_simp
      go_at_call 74
      refine (diskCopy_any _ _ _ p.disk _ HR1.out.d HS.out.d).mono ?_
      rintro e wt3 ⟨u0, u1, ul, rfl, hown, hb⟩
      obtain ⟨G0, g0, G1, g1, Gl, gl, rfl, rfl, rfl⟩ := hown.forms
      have OD := Lib.hid (hown.base (Nat.succ_le_of_lt hx3))
      have OL := Lib.hid (show ∀ b, DTurns (.slice G0 p.disk.s0.length g0) (.slice G1 p.disk.s1.length g1) (.slice Gl p.disk.late.length gl) b → b < wt3.heap.size from fun b e => (hown.turns e).2)
      clear hown
      have Z1 := Lib.hid (Y1.out.below hb Y1.out.lt)
      have Z2 := Lib.hid (Y2.out.below hb Y2.out.lt)
      have B2 := Lib.hid (B1.out.trans (hb.mono B1.out.size))
      have HR2 := Lib.hid (HR1.out.below hb)
      have hx4 : w.heap.size + 1 < wt3.heap.size := Nat.lt_of_lt_of_le hx3 hb.size
      clear hb Y1 Y2 B1 HR1 hx3
      have Y1 := Z1
      have Y2 := Z2
      have B1 := B2
      have HR1 := HR2
      have hx3 := hx4
      clear Z1 Z2 B2 HR2 hx4
      go_wp2_with fail
      refine hK.out _ _ trivial (fun hHeld3 => ?_)
      clear hK K
      try simp only [Act.put]
      refine wpAnyH_ready (rs := [3]) (by kernel_rfl) (by simp) ?_
      refine AllReadyH.cons rfl (fun K hK => ?_) (AllReadyH.nil)
      go_simp
      go_at_call 75
      refine (disk_any G0 G1 Gl _ g0 _ g1 _ gl _).mono ?_
      rintro e wt4 ⟨rfl, hb⟩
      have OLn := Lib.hid (fun b e => Nat.lt_of_lt_of_le (OL.out b e) hb.size)
      clear OL
      have OL := OLn
      clear OLn
      have Z1 := Lib.hid (Y1.out.below hb Y1.out.lt)
      have Z2 := Lib.hid (Y2.out.below hb Y2.out.lt)
      have B2 := Lib.hid (B1.out.trans (hb.mono B1.out.size))
      have HR2 := Lib.hid (HR1.out.below hb)
      have hx4 : w.heap.size + 1 < wt4.heap.size := Nat.lt_of_lt_of_le hx3 hb.size
      have ODn := Lib.hid (OD.out.below hb)
      clear OD
      have OD := ODn
      clear ODn
      clear hb Y1 Y2 B1 HR1 hx3
      have Y1 := Z1
      have Y2 := Z2
      have B1 := B2
      have HR1 := HR2
      have hx3 := hx4
      clear Z1 Z2 B2 HR2 hx4
      go_wp2_with fail
      refine hK.out _ _ trivial (fun hHeld4 => ?_)
      clear hK K
      try simp only [Act.put]
      refine wpAnyH_take (i := 7) (v := ?_) rfl (by kernel_rfl) (by kernel_rfl) (by kernel_rfl) (fun _ _ _ h => h) (Or.inl ⟨by rfl, ?_⟩) (by assumption) ?_
      rotate_left
      · (intro w' hSw; go_simp; try with_reducible rfl)
      try simp only [Act.put]
      refine wpAnyH_ready (rs := [6]) (by kernel_rfl) (by simp) ?_
      refine AllReadyH.cons rfl (fun K hK => ?_) (AllReadyH.nil)
      go_simp
      go_at_call 44
      refine (coreCopy_any _ _ _ _ p.core _ HR1.out.c HS.out.c).mono ?_
      rintro e wt5 ⟨us, ud, up_, ui, rfl, hown, hb⟩
      have OC := Lib.hid (hown.base (Nat.succ_le_of_lt hx3))
      have OX := Lib.hid (show ∀ b, DTurns (.slice G0 p.disk.s0.length g0) (.slice G1 p.disk.s1.length g1) (.slice Gl p.disk.late.length gl) b → CTurns us ud up_ ui b → False from fun b e1 e2 => by have := OL.out b e1; have := (hown.turns e2).1; omega)
      clear hown
      have Z1 := Lib.hid (Y1.out.below hb Y1.out.lt)
      have Z2 := Lib.hid (Y2.out.below hb Y2.out.lt)
      have B2 := Lib.hid (B1.out.trans (hb.mono B1.out.size))
      have HR2 := Lib.hid (HR1.out.below hb)
      have hx4 : w.heap.size + 1 < wt5.heap.size := Nat.lt_of_lt_of_le hx3 hb.size
      have ODn := Lib.hid (OD.out.below hb)
      clear OD
      have OD := ODn
      clear ODn
      clear hb Y1 Y2 B1 HR1 hx3
      have Y1 := Z1
      have Y2 := Z2
      have B1 := B2
      have HR1 := HR2
      have hx3 := hx4
      clear Z1 Z2 B2 HR2 hx4
      go_wp2_with fail
      have OP := Lib.hid (show PoolOwn wt5 (w.heap.size + 1 + 1) ⟨.slice G0 p.disk.s0.length g0, .slice G1 p.disk.s1.length g1, .slice Gl p.disk.late.length gl, us, ud, up_, ui⟩ p from ⟨OD.out, OC.out, OX.out⟩)
      have ON := Lib.hid OP.out.one
      clear OD OC OX OL HR1
      refine hK.out _ _ trivial (fun hHeld5 => ?_)
      clear hK K
      try simp only [Act.put]
      refine wpAnyH_ready (rs := [8]) (by kernel_rfl) (by simp) ?_
      refine AllReadyH.cons rfl (fun K hK => ?_) (AllReadyH.nil)
      refine Eq.mpr (if_pos (by rfl)) ?_
      refine wp_put_mid _ _ rfl rfl aggDiskI rfl [.slice G0 p.disk.s0.length g0, .slice G1 p.disk.s1.length g1, .slice Gl p.disk.late.length gl] rfl rfl (by simp [Value.oneCell']) Y1.out [] v.dl (v.kl p.core ++ [.bool p.up]) ([.slice G0 p.disk.s0.length g0, .slice G1 p.disk.s1.length g1, .slice Gl p.disk.late.length gl] ++ v.kl p.core ++ [.bool p.up]) rfl rfl rfl rfl ?_
      intro ws6 P1 Z1
      have hx4 : w.heap.size + 1 < ws6.heap.size := by rw [P1.size]; exact hx3
      have OPn := Lib.hid (OP.out.put P1 (by omega))
      have Z2 := Lib.hid (P1.box (by omega) Y2.out)
      have B2 := Lib.hid (P1.below B1.out (Nat.le_refl _))
      clear P1 Y1 Y2 B1 hx3 OP
      have Y1 := Lib.hid Z1
      have Y2 := Z2
      have B1 := B2
      have hx3 := hx4
      have OP := OPn
      clear Z1 Z2 B2 hx4 OPn
      refine hK.out _ _ trivial (fun hHeld6 => ?_)
      clear hK K
      try simp only [Act.put]
      refine wpAnyH_take (i := 9) (v := ?_) rfl (by kernel_rfl) (by kernel_rfl) (by kernel_rfl) (fun _ _ _ h => h) (Or.inl ⟨by rfl, ?_⟩) (by assumption) ?_
      rotate_left
      · (intro w' hSw; go_simp; try with_reducible rfl)
      try simp only [Act.put]
      refine wpAnyH_ready (rs := [10]) (by kernel_rfl) (by simp) ?_
      refine AllReadyH.cons rfl (fun K hK => ?_) (AllReadyH.nil)
      refine Eq.mpr (if_pos (by rfl)) ?_
      refine wp_put_mid _ _ rfl rfl aggCore rfl ((PV.mk (.slice G0 p.disk.s0.length g0) (.slice G1 p.disk.s1.length g1) (.slice Gl p.disk.late.length gl) us ud up_ ui).kl p.core) rfl rfl (pcells_k ON.out) Y1.out [.slice G0 p.disk.s0.length g0, .slice G1 p.disk.s1.length g1, .slice Gl p.disk.late.length gl] (v.kl p.core) [.bool p.up] ((PV.mk (.slice G0 p.disk.s0.length g0) (.slice G1 p.disk.s1.length g1) (.slice Gl p.disk.late.length gl) us ud up_ ui).cells p) rfl rfl rfl rfl ?_
      intro ws7 P1 Z1
      have hx4 : w.heap.size + 1 < ws7.heap.size := by rw [P1.size]; exact hx3
      have OPn := Lib.hid (OP.out.put P1 (by omega))
      have Z2 := Lib.hid (P1.box (by omega) Y2.out)
      have B2 := Lib.hid (P1.below B1.out (Nat.le_refl _))
      clear P1 Y1 Y2 B1 hx3 OP
      have Y1 := Lib.hid Z1
      have Y2 := Z2
      have B1 := B2
      have hx3 := hx4
      have OP := OPn
      clear Z1 Z2 B2 hx4 OPn
      refine hK.out _ _ trivial (fun hHeld7 => ?_)
      clear hK K
      try simp only [Act.put]
      refine wpAnyH_done (by kernel_rfl) ?_ _
      go_simp
      go_wp2_with fail
      go_meet
      exact ⟨_, Y1, Y2, B1, OP⟩
  case rest =>
  obtain ⟨u, X1, X2, B0, OP⟩ := hcut
  go_wp2_with (first
    | (refine wpList_load_box rfl _ rfl aggPool rfl (u.cells p) rfl X1.out ?_)
    | (refine wpList_put_mid rfl _ _ rfl rfl aggPool rfl (u.cells p) rfl rfl OP.out.one X2.out [] [.slice none 0 0, .slice none 0 0, .slice none 0 0, .int .i64 0, .slice none 0 0, .slice none 0 0, .slice none 0 0, .bool false, .slice none 0 0, .int .i64 0, .bool false] [] (u.cells p) rfl rfl rfl rfl ?_))
  intro W4 P1 Z2
  go_wp2
  refine bodyPost_ret (results_box rfl _ (w.heap.size + 1) (u.cells p) aggPool rfl rfl Z2) rfl ⟨u, rfl, ?_, P1.below B0.out (by omega)⟩
  exact (OP.out.put P1 (by omega)).base (by omega)
end Go.Proofs.YtobjgdnmlibofaaGreat

/-
  A store in new memory: spec's l10Copy.
-/
set_option maxRecDepth 100000
namespace Go.Proofs.YtobjgdnmlibofaaGreat
open Go.ChangeShapes Go.WideShapes Go.ChangeAt Go.RowKit Go.Proofs.Palim

set_option maxHeartbeats 4000000 in
theorem l10Copy_any (v : PV) (p : PoolM) (w : World) (h : PoolR w v p) (hs : PoolShort p) :
    Calls Tryz.prog 32 #[v.val p] w (NewPool w p) := by
  obtain ⟨b1, b2, hsz, hB⟩ := box2 w #[v.v0, v.v1, v.vl, .int .i64 p.core.txg, v.vs, v.vd, v.vp, .bool p.core.dirty, v.vi, .int .i64 p.core.logn, .bool p.up] #[.slice none 0 0, .slice none 0 0, .slice none 0 0, .int .i64 0, .slice none 0 0, .slice none 0 0, .slice none 0 0, .bool false, .slice none 0 0, .int .i64 0, .bool false] 46 46
  have X1 := Lib.hid (show PBox _ _ v p from ⟨b1, h.below hB⟩)
  have X2 := Lib.hid (show Box _ _ [.slice none 0 0, .slice none 0 0, .slice none 0 0, .int .i64 0, .slice none 0 0, .slice none 0 0, .slice none 0 0, .bool false, .slice none 0 0, .int .i64 0, .bool false] from b2)
  have B0 := Lib.hid hB
  have HS := Lib.hid hs
  clear b1 b2 hB hsz h hs
  go_enter Tryz.func32, Tryz.ntmps32
  go_upto_region 1 with fail
  obtain ⟨W, HWE⟩ : ∃ W, (w.alloc (.cells #[v.v0, v.v1, v.vl, .int .i64 p.core.txg, v.vs, v.vd, v.vp, .bool p.core.dirty, v.vi, .int .i64 p.core.logn, .bool p.up] 46)).alloc (.cells #[.slice none 0 0, .slice none 0 0, .slice none 0 0, .int .i64 0, .slice none 0 0, .slice none 0 0, .slice none 0 0, .bool false, .slice none 0 0, .int .i64 0, .bool false] 46) = W := ⟨_, rfl⟩
  rw [HWE] at X1 X2 B0 ⊢
  clear HWE
  refine wp_region_held_drew (S := fun w' => Box w' w.heap.size (v.cells p)) (by kernel_rfl) X1.out.box (fun hHeld => ?_)
  have Y1 := Lib.hid X1.out.drew
  have Y2 := Lib.hid X2.out.drew
  have B1 := Lib.hid B0.out.drew
  have hx3 : w.heap.size + 1 < W.drew.heap.size := X2.out.lt
  clear X1 X2 B0
  generalize W.drew = wd at hHeld Y1 Y2 B1 hx3 ⊢
  refine wpAnyH_take (i := 0) (v := ?_) rfl (by kernel_rfl) (by kernel_rfl) (by kernel_rfl) (fun _ _ _ h => h) (Or.inl ⟨by first | kernel_rfl | rfl, ?_⟩) (by assumption) ?_
  rotate_left
  · (intro w' hSw; have q10 := hSw.cell 10 rfl; clear hSw; go_simp; try with_reducible rfl)
  try simp only [Act.put]
  refine wpAnyH_take (i := 1) (v := .agg (v.dl).toArray) rfl (by kernel_rfl) (by kernel_rfl) (by kernel_rfl) (fun _ _ _ h => h) (Or.inl ⟨by first | kernel_rfl | rfl, fun w' hSw => exec_load_cs _ rfl aggDiskI rfl (v.dl) rfl (PV.diskAt hSw)⟩) (by assumption) ?_
  try simp only [Act.put]
  refine wpAnyH_take (i := 3) (v := ?_) rfl (by kernel_rfl) (by kernel_rfl) (by kernel_rfl) (fun _ _ _ h => h) (Or.inl ⟨by first | kernel_rfl | rfl, ?_⟩) (by assumption) ?_
  rotate_left
  · (intro w' hSw; have q10 := hSw.cell 10 rfl; clear hSw; go_simp; try with_reducible rfl)
  try simp only [Act.put]
  refine wpAnyH_take (i := 4) (v := .agg (v.kl p.core).toArray) rfl (by kernel_rfl) (by kernel_rfl) (by kernel_rfl) (fun _ _ _ h => h) (Or.inl ⟨by first | kernel_rfl | rfl, fun w' hSw => exec_load_cs _ rfl aggCore rfl (v.kl p.core) rfl (PV.coreAt hSw)⟩) (by assumption) ?_
  try simp only [Act.put]
  refine wpAnyH_take (i := 6) (v := ?_) rfl (by kernel_rfl) (by kernel_rfl) (by kernel_rfl) (fun _ _ _ h => h) (Or.inl ⟨by first | kernel_rfl | rfl, ?_⟩) (by assumption) ?_
  rotate_left
  · (intro w' hSw; have q10 := hSw.cell 10 rfl; clear hSw; go_simp; try with_reducible rfl)
  try simp only [Act.put]
  refine wpAnyH_take (i := 7) (v := ?_) rfl (by kernel_rfl) (by kernel_rfl) (by kernel_rfl) (fun _ _ _ h => h) (Or.inl ⟨by first | kernel_rfl | rfl, ?_⟩) (by assumption) ?_
  rotate_left
  · (intro w' hSw; have q10 := hSw.cell 10 rfl; clear hSw; go_simp; try with_reducible rfl)
  try simp only [Act.put]
  refine wpAnyH_ready (rs := [2]) (by kernel_rfl) (by simp) ?_
  refine AllReadyH.cons rfl (fun K hK => ?_) AllReadyH.nil
  go_simp
  go_at_call 72
  refine (l2Copy_any _ _ _ p.disk _ Y1.out.reads.d HS.out.d).mono ?_
  rintro e w1 ⟨u0, u1, ul, rfl, hown, hb⟩
  have OD := Lib.hid (hown.base (Nat.succ_le_of_lt hx3))
  have OL := Lib.hid (show ∀ b, DTurns u0 u1 ul b → b < w1.heap.size from fun b e => (hown.turns e).2)
  have Z1 := Lib.hid (Y1.out.below hb)
  have Z2 := Lib.hid (Y2.out.below hb Y2.out.lt)
  have B2 := Lib.hid (B1.out.trans (hb.mono B1.out.size))
  have hx4 : w.heap.size + 1 < w1.heap.size := Nat.lt_of_lt_of_le hx3 hb.size
  clear hb hown Y1 Y2 B1 hx3
  go_wp2_with fail
  refine hK.out _ _ Z1.out.box (fun hHeld2 => ?_)
  clear hK K
  try simp only [Act.put]
  refine wpAnyH_ready (rs := [5]) (by kernel_rfl) (by simp) ?_
  refine AllReadyH.cons rfl (fun K hK => ?_) AllReadyH.nil
  go_simp
  go_at_call 73
  refine (l6Copy_any _ _ _ _ p.core _ Z1.out.reads.c HS.out.c).mono ?_
  rintro e w2 ⟨us, ud, up_, ui, rfl, hown, hb⟩
  have OC := Lib.hid (hown.base (Nat.succ_le_of_lt hx4))
  have OX := Lib.hid (show ∀ b, DTurns u0 u1 ul b → CTurns us ud up_ ui b → False from fun b e1 e2 => by have := OL.out b e1; have := (hown.turns e2).1; omega)
  have OD2 := Lib.hid (OD.out.below hb)
  have Y1 := Lib.hid (Z1.out.below hb)
  have Y2 := Lib.hid (Z2.out.below hb Z2.out.lt)
  have B1 := Lib.hid (B2.out.trans (hb.mono B2.out.size))
  clear hb hown Z1 Z2 B2 OD OL hx4
  go_wp2_with fail
  refine hK.out _ _ Y1.out.box (fun hHeld3 => ?_)
  clear hK K
  try simp only [Act.put]
  refine wpAnyH_take (i := 8) (v := ?_) rfl (by kernel_rfl) (by kernel_rfl) (by kernel_rfl) (fun _ _ _ h => h) (Or.inl ⟨by first | kernel_rfl | rfl, ?_⟩) (by assumption) ?_
  rotate_left
  · (intro w' hSw; clear hSw; go_simp; try with_reducible rfl)
  try simp only [Act.put]
  refine wpAnyH_ready (rs := [9]) (by kernel_rfl) (by simp) ?_
  refine AllReadyH.cons rfl (fun K hK => ?_) AllReadyH.nil
  refine Eq.mpr (if_pos (by rfl)) ?_
  have OP := Lib.hid (show PoolOwn w2 (w.heap.size + 1 + 1) ⟨u0, u1, ul, us, ud, up_, ui⟩ p from ⟨OD2.out, OC.out, OX.out⟩)
  refine wp_put_mid _ _ rfl rfl aggPool rfl (PV.cells ⟨u0, u1, ul, us, ud, up_, ui⟩ p) rfl rfl OP.out.one Y2.out [] [.slice none 0 0, .slice none 0 0, .slice none 0 0, .int .i64 0, .slice none 0 0, .slice none 0 0, .slice none 0 0, .bool false, .slice none 0 0, .int .i64 0, .bool false] [] (PV.cells ⟨u0, u1, ul, us, ud, up_, ui⟩ p) rfl rfl rfl rfl ?_
  intro W4 P1 Z2
  refine hK.out _ _ (P1.box (by omega) Y1.out.box) (fun hHeld4 => ?_)
  clear hK K
  try simp only [Act.put]
  refine wpAnyH_done (by kernel_rfl) ?_ _
  go_simp
  go_wp2
  refine bodyPost_ret (results_box rfl _ (w.heap.size + 1) (PV.cells ⟨u0, u1, ul, us, ud, up_, ui⟩ p) aggPool rfl rfl Z2) rfl ⟨⟨u0, u1, ul, us, ud, up_, ui⟩, rfl, ?_, P1.below B1.out (by omega)⟩
  exact (OP.out.put P1 (by omega)).base (by omega)
end Go.Proofs.YtobjgdnmlibofaaGreat
