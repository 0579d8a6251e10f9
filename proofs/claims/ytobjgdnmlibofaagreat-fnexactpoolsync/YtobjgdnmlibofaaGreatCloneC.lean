/-
  slices.Clone at lists of sets, entries, pointers and numbers: the same cells in memory of the call's own.
-/
import Derived.Test.YtobjgdnmlibofaaGreatImClone
import Derived.Test.YtobjgdnmlibofaaGreatData
set_option maxRecDepth 100000
namespace Go.Proofs.YtobjgdnmlibofaaGreat
open Go.ChangeShapes Go.WideShapes Go.ChangeAt Go.RowKit Go.Proofs.Palim

theorem ics_oneK (ls : List Int) : ∀ u ∈ ics ls, u.oneCell' = true := by
  intro u hu
  obtain ⟨x, _, rfl⟩ := List.mem_map.1 hu
  rfl
theorem ecs_oneK (ls : List EntM) : ∀ u ∈ ecs ls, u.oneCell' = true := by
  intro u hu
  obtain ⟨x, _, hu⟩ := List.mem_flatMap.1 hu
  simp [ec] at hu
  rcases hu with rfl | rfl | rfl <;> rfl
theorem ccs_oneK (ls : List CSetM) : ∀ u ∈ ccs ls, u.oneCell' = true := by
  intro u hu
  obtain ⟨x, _, hu⟩ := List.mem_flatMap.1 hu
  exact cc_one x u hu

set_option maxHeartbeats 1000000 in
theorem cloneSet_any (v : Value) (ls : List CSetM) (w : World) (h : Sl w 31 v ls.length (ccs ls)) (hl : Low w.heap.size v) (hn : ls.length ≤ 1048576) :
    Calls Tryz.prog 93 #[v] w (Cloned w 89 31 ls.length (ccs ls)) := by
  obtain ⟨i0, hi, hz0, hz1, hz2⟩ := info_parts infoCSet
  have q : ∀ (w : World) (a : Option Addr) (n c n' c' : Nat), (binOp .eql 40 (.slice a n c) (.slice none n' c')).run Tryz.prog w = .ok (.bool a.isNone) w := fun w a n c n' c' => Lib.run_eql_slice_nil w _ _ a n c n' c' Tryz.underlying40
  obtain ⟨n, HN⟩ : ∃ n, Hid (ls.length = n) := ⟨_, Lib.hid rfl⟩
  rw [HN.out] at h hn ⊢
  have HS := Lib.hid h
  have HL := Lib.hid hl
  obtain ⟨hlen, A, c, rfl, hnc, hcm, hcell⟩ := h
  clear hl
  cases A with
  | none =>
    have hz : n = 0 := hcell.resolve_right (by rintro ⟨_, _, h, _⟩; cases h)
    subst hz
    have HE := Lib.hid (show ccs ls = [] from List.length_eq_zero_iff.1 (by simpa using hlen))
    clear hlen hcell
    go_enter Tryz.func93, Tryz.ntmps93
    go_wp2
    go_ret
    exact ⟨none, 0, rfl, by rw [HE.out]; exact ⟨rfl, .inl ⟨rfl, rfl⟩⟩, Below.refl _ _⟩
  | some a =>
    have HM := Lib.hid hcm
    clear hlen hcell hnc hcm
    go_enter Tryz.func93, Tryz.ntmps93
    go_wp2_with (first
      | (at_builtin; refine wpList_append_fresh _ rfl _ _ 40 rfl w.heap.size 89 i0 _ 31 264 Tryz.underlying40 hi hz0 hz1 hz2 rfl (by omega) (.slice (some ⟨w.heap.size, 0, none⟩) 0 0) 0 [] rfl (own_empty (At.new rfl) (Nat.le_refl _))
          (.slice (some a) n c) n (ccs ls) rfl (HS.out.below ((Below.refl _ w).alloc (Nat.le_refl _) _) HL.out) (ccs_oneK _) (by unfold maxLen; omega) (by omega) (by simp) ?_))
    intro A' cap w1 hown hg _
    obtain ⟨hown', hb⟩ := clone_done hown hg
    have HO := Lib.hid hown'
    have HB := Lib.hid hb
    clear hown hg hown' hb
    go_wp2
    go_ret
    exact ⟨A', cap, rfl, HO.out, HB.out⟩

set_option maxHeartbeats 1000000 in
theorem cloneEnt_any (v : Value) (ls : List EntM) (w : World) (h : Sl w 3 v ls.length (ecs ls)) (hl : Low w.heap.size v) (hn : ls.length ≤ 1048576) :
    Calls Tryz.prog 94 #[v] w (Cloned w 126 3 ls.length (ecs ls)) := by
  obtain ⟨i0, hi, hz0, hz1, hz2⟩ := info_parts infoEnt
  have q : ∀ (w : World) (a : Option Addr) (n c n' c' : Nat), (binOp .eql 41 (.slice a n c) (.slice none n' c')).run Tryz.prog w = .ok (.bool a.isNone) w := fun w a n c n' c' => Lib.run_eql_slice_nil w _ _ a n c n' c' Tryz.underlying41
  obtain ⟨n, HN⟩ : ∃ n, Hid (ls.length = n) := ⟨_, Lib.hid rfl⟩
  rw [HN.out] at h hn ⊢
  have HS := Lib.hid h
  have HL := Lib.hid hl
  obtain ⟨hlen, A, c, rfl, hnc, hcm, hcell⟩ := h
  clear hl
  cases A with
  | none =>
    have hz : n = 0 := hcell.resolve_right (by rintro ⟨_, _, h, _⟩; cases h)
    subst hz
    have HE := Lib.hid (show ecs ls = [] from List.length_eq_zero_iff.1 (by simpa using hlen))
    clear hlen hcell
    go_enter Tryz.func94, Tryz.ntmps94
    go_wp2
    go_ret
    exact ⟨none, 0, rfl, by rw [HE.out]; exact ⟨rfl, .inl ⟨rfl, rfl⟩⟩, Below.refl _ _⟩
  | some a =>
    have HM := Lib.hid hcm
    clear hlen hcell hnc hcm
    go_enter Tryz.func94, Tryz.ntmps94
    go_wp2_with (first
      | (at_builtin; refine wpList_append_fresh _ rfl _ _ 41 rfl w.heap.size 126 i0 _ 3 24 Tryz.underlying41 hi hz0 hz1 hz2 rfl (by omega) (.slice (some ⟨w.heap.size, 0, none⟩) 0 0) 0 [] rfl (own_empty (At.new rfl) (Nat.le_refl _))
          (.slice (some a) n c) n (ecs ls) rfl (HS.out.below ((Below.refl _ w).alloc (Nat.le_refl _) _) HL.out) (ecs_oneK _) (by unfold maxLen; omega) (by omega) (by simp) ?_))
    intro A' cap w1 hown hg _
    obtain ⟨hown', hb⟩ := clone_done hown hg
    have HO := Lib.hid hown'
    have HB := Lib.hid hb
    clear hown hg hown' hb
    go_wp2
    go_ret
    exact ⟨A', cap, rfl, HO.out, HB.out⟩

set_option maxHeartbeats 1000000 in
theorem clonePtr_any (v : Value) (ls : List PtrM) (w : World) (h : Sl w 3 v ls.length (pcs ls)) (hl : Low w.heap.size v) (hn : ls.length ≤ 1048576) :
    Calls Tryz.prog 95 #[v] w (Cloned w 86 3 ls.length (pcs ls)) := by
  obtain ⟨i0, hi, hz0, hz1, hz2⟩ := info_parts infoPtr
  have q : ∀ (w : World) (a : Option Addr) (n c n' c' : Nat), (binOp .eql 42 (.slice a n c) (.slice none n' c')).run Tryz.prog w = .ok (.bool a.isNone) w := fun w a n c n' c' => Lib.run_eql_slice_nil w _ _ a n c n' c' Tryz.underlying42
  obtain ⟨n, HN⟩ : ∃ n, Hid (ls.length = n) := ⟨_, Lib.hid rfl⟩
  rw [HN.out] at h hn ⊢
  have HS := Lib.hid h
  have HL := Lib.hid hl
  obtain ⟨hlen, A, c, rfl, hnc, hcm, hcell⟩ := h
  clear hl
  cases A with
  | none =>
    have hz : n = 0 := hcell.resolve_right (by rintro ⟨_, _, h, _⟩; cases h)
    subst hz
    have HE := Lib.hid (show pcs ls = [] from List.length_eq_zero_iff.1 (by simpa using hlen))
    clear hlen hcell
    go_enter Tryz.func95, Tryz.ntmps95
    go_wp2
    go_ret
    exact ⟨none, 0, rfl, by rw [HE.out]; exact ⟨rfl, .inl ⟨rfl, rfl⟩⟩, Below.refl _ _⟩
  | some a =>
    have HM := Lib.hid hcm
    clear hlen hcell hnc hcm
    go_enter Tryz.func95, Tryz.ntmps95
    go_wp2_with (first
      | (at_builtin; refine wpList_append_fresh _ rfl _ _ 42 rfl w.heap.size 86 i0 _ 3 24 Tryz.underlying42 hi hz0 hz1 hz2 rfl (by omega) (.slice (some ⟨w.heap.size, 0, none⟩) 0 0) 0 [] rfl (own_empty (At.new rfl) (Nat.le_refl _))
          (.slice (some a) n c) n (pcs ls) rfl (HS.out.below ((Below.refl _ w).alloc (Nat.le_refl _) _) HL.out) (pcs_one _) (by unfold maxLen; omega) (by omega) (by simp) ?_))
    intro A' cap w1 hown hg _
    obtain ⟨hown', hb⟩ := clone_done hown hg
    have HO := Lib.hid hown'
    have HB := Lib.hid hb
    clear hown hg hown' hb
    go_wp2
    go_ret
    exact ⟨A', cap, rfl, HO.out, HB.out⟩

set_option maxHeartbeats 1000000 in
theorem cloneInt_any (v : Value) (ls : List Int) (w : World) (h : Sl w 1 v ls.length (ics ls)) (hl : Low w.heap.size v) (hn : ls.length ≤ 1048576) :
    Calls Tryz.prog 96 #[v] w (Cloned w 3 1 ls.length (ics ls)) := by
  obtain ⟨i0, hi, hz0, hz1, hz2⟩ := info_parts infoInt
  have q : ∀ (w : World) (a : Option Addr) (n c n' c' : Nat), (binOp .eql 30 (.slice a n c) (.slice none n' c')).run Tryz.prog w = .ok (.bool a.isNone) w := fun w a n c n' c' => Lib.run_eql_slice_nil w _ _ a n c n' c' Tryz.underlying30
  obtain ⟨n, HN⟩ : ∃ n, Hid (ls.length = n) := ⟨_, Lib.hid rfl⟩
  rw [HN.out] at h hn ⊢
  have HS := Lib.hid h
  have HL := Lib.hid hl
  obtain ⟨hlen, A, c, rfl, hnc, hcm, hcell⟩ := h
  clear hl
  cases A with
  | none =>
    have hz : n = 0 := hcell.resolve_right (by rintro ⟨_, _, h, _⟩; cases h)
    subst hz
    have HE := Lib.hid (show ics ls = [] from List.length_eq_zero_iff.1 (by simpa using hlen))
    clear hlen hcell
    go_enter Tryz.func96, Tryz.ntmps96
    go_wp2
    go_ret
    exact ⟨none, 0, rfl, by rw [HE.out]; exact ⟨rfl, .inl ⟨rfl, rfl⟩⟩, Below.refl _ _⟩
  | some a =>
    have HM := Lib.hid hcm
    clear hlen hcell hnc hcm
    go_enter Tryz.func96, Tryz.ntmps96
    go_wp2_with (first
      | (at_builtin; refine wpList_append_fresh _ rfl _ _ 30 rfl w.heap.size 3 i0 _ 1 8 Tryz.underlying30 hi hz0 hz1 hz2 rfl (by omega) (.slice (some ⟨w.heap.size, 0, none⟩) 0 0) 0 [] rfl (own_empty (At.new rfl) (Nat.le_refl _))
          (.slice (some a) n c) n (ics ls) rfl (HS.out.below ((Below.refl _ w).alloc (Nat.le_refl _) _) HL.out) (ics_oneK _) (by unfold maxLen; omega) (by omega) (by simp) ?_))
    intro A' cap w1 hown hg _
    obtain ⟨hown', hb⟩ := clone_done hown hg
    have HO := Lib.hid hown'
    have HB := Lib.hid hb
    clear hown hg hown' hb
    go_wp2
    go_ret
    exact ⟨A', cap, rfl, HO.out, HB.out⟩
end Go.Proofs.YtobjgdnmlibofaaGreat
