/-
  The laws' own helpers on lists of sets: measured, copied, compared.
-/
import Derived.Test.YtoeaeckkmpdpiaaSetS
import Derived.WalkKit
import Derived.ProofKit
import Derived.Lib.Hide
import Derived.WalkSpells
import Derived.WalkSmall
import Derived.Laws.Pointers
set_option maxRecDepth 100000
namespace Go.Proofs.Ytoeaeckkmpdpiaa
open Go.ChangeShapes Go.WideShapes Go.ChangeAt Go.RowKit Go.Proofs.Palim

theorem take_set11 {α : Type} (xs : List α) (k : Nat) (a0 a1 a2 a3 a4 a5 a6 a7 a8 a9 a10 : α) (h : k * 11 + 10 < xs.length) :
    ((((((((((((xs.set (k * 11) a0).set (k * 11 + 1) a1).set (k * 11 + 2) a2).set (k * 11 + 3) a3).set (k * 11 + 4) a4).set (k * 11 + 5) a5).set (k * 11 + 6) a6).set (k * 11 + 7) a7).set (k * 11 + 8) a8).set (k * 11 + 9) a9).set (k * 11 + 10) a10)).take ((k + 1) * 11) = xs.take (k * 11) ++ [a0, a1, a2, a3, a4, a5, a6, a7, a8, a9, a10] := by
  rw [show (k + 1) * 11 = k * 11 + 10 + 1 by omega]
  iterate 10 rw [take_set_succ _ _ _ (by simp; omega)]
  rw [take_set_succ _ _ _ (by omega)]
  simp

/-- How many bytes a set holds. -/
def ksz (x : SetM) : Nat := x.name.size + x.frm.size + tot x.bs
/-- A set whose texts may come in. -/
def KFit (x : SetM) : Prop := x.name.size ≤ maxLen ∧ x.frm.size ≤ maxLen ∧ ∀ s ∈ x.bs, s.size ≤ maxLen

set_option maxHeartbeats 1000000 in
theorem szBookSet_any (x : SetM) (left : Int) (w : World) (hz : KFit x) (h0 : 0 ≤ left) (h1 : left ≤ 1048576) :
    Calls Try.prog 65 #[.agg #[.string x.name, .int .i64 x.kind, .string x.frm, .string x.b0, .string x.b1, .string x.b2, .string x.b3, .string x.b4, .string x.b5, .string x.b6, .string x.b7], .int .i64 left] w fun e w' => (∃ r : Int, e = .returned (.int .i64 r) ∧ (r = -1 ∨ 0 ≤ r ∧ r + ksz x = left)) ∧ Below w.heap.size w w' := by
  obtain ⟨hz1, hz2, hz3⟩ := hz
  have HZ := Lib.hid hz3
  unfold maxLen at hz1 hz2
  clear hz3
  by_cases hl : left < x.name.size
  · go_enter Try.func65, Try.ntmps65
    go_wp2_with fail
    go_ret
    exact ⟨⟨-1, rfl, Or.inl rfl⟩, (Below.refl _ _).alloc (Nat.le_refl _) _⟩
  by_cases hl2 : left - x.name.size < x.frm.size
  · go_enter Try.func65, Try.ntmps65
    go_wp2_with fail
    go_ret
    exact ⟨⟨-1, rfl, Or.inl rfl⟩, (Below.refl _ _).alloc (Nat.le_refl _) _⟩
  go_enter Try.func65, Try.ntmps65
  go_wp2_with fail
  refine (szStringA8_any x (left - x.name.size - x.frm.size) _ HZ.out (by omega) (by omega)).mono ?_
  rintro e w2 ⟨⟨r, rfl, hr⟩, hb⟩
  have HB := Lib.hid (((Below.refl _ _).alloc (Nat.le_refl _) (.cells #[.string x.name, .int .i64 x.kind, .string x.frm, .string x.b0, .string x.b1, .string x.b2, .string x.b3, .string x.b4, .string x.b5, .string x.b6, .string x.b7] 104)).trans (hb.mono (by simp)))
  clear hb
  rcases hr with rfl | ⟨hr0, hr1⟩
  · go_wp2
    go_ret
    exact ⟨⟨-1, rfl, Or.inl rfl⟩, HB.out⟩
  · have hr2 : ¬ r < 0 := by omega
    have HR := Lib.hid (show r + ksz x = left from by unfold ksz; omega)
    clear hr1
    go_wp2
    go_ret
    exact ⟨⟨r, rfl, Or.inr ⟨hr0, HR.out⟩⟩, HB.out⟩

set_option maxHeartbeats 1000000 in
theorem eqBookSet_same (x : SetM) (w : World) :
    Calls Try.prog 74 #[.agg #[.string x.name, .int .i64 x.kind, .string x.frm, .string x.b0, .string x.b1, .string x.b2, .string x.b3, .string x.b4, .string x.b5, .string x.b6, .string x.b7], .agg #[.string x.name, .int .i64 x.kind, .string x.frm, .string x.b0, .string x.b1, .string x.b2, .string x.b3, .string x.b4, .string x.b5, .string x.b6, .string x.b7]] w fun e w' => e = .returned (.bool true) ∧ Below w.heap.size w w' := by
  go_enter Try.func74, Try.ntmps74
  go_wp2_with fail
  refine (eqStringA8_same x _).mono ?_
  rintro e w2 ⟨rfl, hb⟩
  have HB := Lib.hid ((((Below.refl _ _).alloc (Nat.le_refl _) (.cells #[.string x.name, .int .i64 x.kind, .string x.frm, .string x.b0, .string x.b1, .string x.b2, .string x.b3, .string x.b4, .string x.b5, .string x.b6, .string x.b7] 65)).alloc (by simp) (.cells #[.string x.name, .int .i64 x.kind, .string x.frm, .string x.b0, .string x.b1, .string x.b2, .string x.b3, .string x.b4, .string x.b5, .string x.b6, .string x.b7] 65)).trans (hb.mono (by simp; omega)))
  clear hb
  go_wp2
  go_ret
  exact ⟨rfl, HB.out⟩

/-- How many bytes a list of sets holds. -/
def kszs (ls : List SetM) : Nat := (ls.map ksz).sum
theorem kszs_snoc (a : List SetM) (x : SetM) : kszs (a ++ [x]) = kszs a + ksz x := by simp [kszs]

set_option maxHeartbeats 1000000 in
theorem szBookSetS_any (v : Value) (ls : List SetM) (left : Int) (w : World) (h : Sl w 11 v ls.length (kcs ls)) (hv : ∀ b, v.ownBlock = some b → b < w.heap.size) (hz : ∀ x ∈ ls, KFit x) (h0 : 0 ≤ left) (h1 : left ≤ 1048576) :
    Calls Try.prog 30 #[v, .int .i64 left] w fun e w' => (∃ r : Int, e = .returned (.int .i64 r) ∧ (r = -1 ∨ 0 ≤ r ∧ r + ls.length + kszs ls = left)) ∧ Below w.heap.size w w' := by
  obtain ⟨n, HN⟩ : ∃ n, Hid (ls.length = n) := ⟨_, Lib.hid rfl⟩
  have HZ := Lib.hid hz
  clear hz
  rw [HN.out] at h
  have hnm := h.le
  unfold maxLen at hnm
  by_cases hbig : left < n
  · obtain ⟨_, A, c, rfl, _, _, _⟩ := h
    go_enter Try.func30, Try.ntmps30
    go_wp2
    go_ret
    exact ⟨⟨-1, rfl, Or.inl rfl⟩, Below.refl _ _⟩
  by_cases hn : n = 0
  · subst hn
    have HE := Lib.hid (List.length_eq_zero_iff.1 HN.out)
    obtain ⟨_, A, c, rfl, _, _, _⟩ := h
    clear hv
    go_enter Try.func30, Try.ntmps30
    go_wp2
    go_loop [1, 5] (fun l i => l = .int .i64 left ∧ i = .int .i64 0) (fun _ _ => 0)
    case atStart => exact ⟨rfl, rfl⟩
    case round =>
      obtain ⟨rfl, rfl⟩ := hrel
      go_wp2
      go_ret
      exact ⟨⟨left, rfl, Or.inr ⟨h0, by rw [HE.out]; simp [kszs]⟩⟩, Below.refl _ _⟩
  · obtain ⟨b, off, c, rfl, hnc, hcm, hcell⟩ := h.form (by omega)
    have hbl : b < w.heap.size := hv b rfl
    have HC := Lib.hid hcell
    unfold maxLen at hcm
    clear hcell h hv
    go_enter Try.func30, Try.ntmps30
    go_wp2
    go_loopw [1, 5] (fun l i wr => ∃ (k : Nat) (r : Int), k ≤ n ∧ i = .int .i64 k ∧ l = .int .i64 r ∧ 0 ≤ r ∧ r ≤ left ∧ Hid (r + n + kszs (ls.take k) = left) ∧ Hid (Below w.heap.size w wr)) (fun _ i _ => n - (intOf i).toNat)
    case atStart => exact ⟨0, left - n, Nat.zero_le _, rfl, rfl, by omega, by omega, Lib.hid (by simp [kszs]), Lib.hid (Below.refl _ _)⟩
    case round =>
      obtain ⟨k, r, hk, rfl, rfl, hr0, hr1, HR, HB⟩ := hrel
      by_cases hlt : k < n
      · have hlt' : k < ls.length := by rw [HN.out]; exact hlt
        have hrd := set_read (fun j u hu => (HB.out.cell hbl).trans (HC.out j u hu)) k hlt'
        have HF := Lib.hid (HZ.out ls[k] (List.getElem_mem _))
        have HT := Lib.hid (show kszs (ls.take (k + 1)) = kszs (ls.take k) + ksz ls[k] from by rw [List.take_succ_eq_append_getElem hlt', kszs_snoc])
        obtain ⟨x, HX⟩ : ∃ x, Hid (x = ls[k]) := ⟨_, Lib.hid rfl⟩
        rw [← HX.out] at hrd HF HT
        obtain ⟨g0, g1, g2, g3, g4, g5, g6, g7, g8, g9, g10⟩ := hrd.all
        clear hrd
        go_wp2_with fail
        refine (szBookSet_any x r _ HF.out hr0 (by omega)).mono ?_
        rintro e w2 ⟨⟨r2, rfl, hr⟩, hb⟩
        have HB2 := Lib.hid (HB.out.trans (hb.mono HB.out.size))
        clear hb HB g0 g1 g2 g3 g4 g5 g6 g7 g8 g9 g10
        rcases hr with rfl | ⟨hr2, hr3⟩
        · go_wp2
          go_ret
          exact ⟨⟨-1, rfl, Or.inl rfl⟩, HB2.out⟩
        · have hr4 : ¬ r2 < 0 := by omega
          have HR2 := Lib.hid (show r2 + n + kszs (ls.take (k + 1)) = left from by have := HR.out; have := HT.out; omega)
          have hr5 : r2 ≤ left := by omega
          clear hr3 HR HT
          go_wp2
          go_roundw
          case rel => exact ⟨k + 1, r2, by omega, by go_num, rfl, hr2, hr5, HR2, HB2⟩
          case measure => simp [intOf]; omega
      · have HK := Lib.hid (show ls.take k = ls from List.take_of_length_le (by rw [HN.out]; omega))
        go_wp2
        go_ret
        exact ⟨⟨r, rfl, Or.inr ⟨hr0, by have h1 := HR.out; rw [HK.out] at h1; rw [HN.out]; omega⟩⟩, HB.out⟩

/-- A new list of sets of the call's own. -/
def NewSets (w : World) (ls : List SetM) (e : Ending) (w' : World) : Prop :=
  ∃ v, e = .returned v ∧ w'.ownsRow w.heap.size 65 11 v ls.length (kcs ls) ∧ Below w.heap.size w w'

set_option maxHeartbeats 2000000 in
theorem toBookSetS_any (v : Value) (ls : List SetM) (w : World) (h : Sl w 11 v ls.length (kcs ls)) (hv : ∀ b, v.ownBlock = some b → b < w.heap.size) (hs : ls.length ≤ 1048576) :
    Calls Try.prog 33 #[v] w (NewSets w ls) := by
  obtain ⟨i0, hi, hz0, hz1, hz2⟩ := info_parts infoSet
  obtain ⟨n, HN⟩ : ∃ n, Hid (ls.length = n) := ⟨_, Lib.hid rfl⟩
  rw [HN.out] at h hs
  by_cases hn : n = 0
  · subst hn
    have HE := Lib.hid (List.length_eq_zero_iff.1 HN.out)
    obtain ⟨_, A, c, rfl, _, _, _⟩ := h
    clear hv
    go_enter Try.func33, Try.ntmps33
    go_wp2_with (first | (at_make; refine wpList_make_full _ rfl _ _ 28 rfl w.heap.size 65 i0 (.agg #[.string ⟨#[]⟩, .int .i64 0, .string ⟨#[]⟩, .string ⟨#[]⟩, .string ⟨#[]⟩, .string ⟨#[]⟩, .string ⟨#[]⟩, .string ⟨#[]⟩, .string ⟨#[]⟩, .string ⟨#[]⟩, .string ⟨#[]⟩]) 11 Try.underlying28 hi hz0 hz1 _ _ _ _ 0 rfl rfl (by omega) (by omega) (by omega) (by unfold maxLen; omega) (Nat.le_refl _) ?_))
    intro w1 hown hgrow
    go_wp2
    go_loopw [4] (fun i wr => i = .int .i64 0 ∧ wr = w1) (fun _ _ => 0)
    case atStart => exact ⟨rfl, rfl⟩
    case round =>
      obtain ⟨rfl, rfl⟩ := hrel
      go_wp2
      go_ret
      refine ⟨_, rfl, ?_, (Below.refl _ _).grown hgrow (Nat.le_refl _) (fun _ h => by cases h)⟩
      rw [HE.out]
      have h2 := hown
      rw [List.length_eq_zero_iff.1 (h2.1.trans (Nat.zero_mul _))] at h2
      exact h2
  · obtain ⟨b, off, c, rfl, hnc, hcm, hcell⟩ := h.form (by omega)
    have hbl : b < w.heap.size := hv b rfl
    have HC := Lib.hid hcell
    unfold maxLen at hcm
    clear hcell h hv
    go_enter Try.func33, Try.ntmps33
    go_wp2_with (first | (at_make; refine wpList_make_full _ rfl _ _ 28 rfl w.heap.size 65 i0 (.agg #[.string ⟨#[]⟩, .int .i64 0, .string ⟨#[]⟩, .string ⟨#[]⟩, .string ⟨#[]⟩, .string ⟨#[]⟩, .string ⟨#[]⟩, .string ⟨#[]⟩, .string ⟨#[]⟩, .string ⟨#[]⟩, .string ⟨#[]⟩]) 11 Try.underlying28 hi hz0 hz1 _ _ _ _ n rfl rfl rfl rfl (by rw [hz2]; omega) (by unfold maxLen; omega) (Nat.le_refl _) ?_))
    intro w1 hown hgrow
    go_wp2
    go_loopw [4] (fun i wr => ∃ (k : Nat) (xs : List Value), k ≤ n ∧ i = .int .i64 k ∧ Hid (wr.ownsRow w.heap.size 65 11 (.slice (some ⟨w.heap.size, 0, none⟩) n n) n xs) ∧ Hid (xs.take (k * 11) = kcs (ls.take k)) ∧ Hid (Below w.heap.size w wr)) (fun i _ => n - (intOf i).toNat)
    case atStart => exact ⟨0, _, Nat.zero_le _, rfl, Lib.hid hown, Lib.hid rfl, Lib.hid ((Below.refl _ _).grown hgrow (Nat.le_refl _) (fun _ h => by cases h))⟩
    case round =>
      obtain ⟨k, xs, hk, rfl, HO, HT, HB⟩ := hrel
      clear hown hgrow
      by_cases hlt : k < n
      · have hlt' : k < ls.length := by rw [HN.out]; exact hlt
        have hrd := set_read (fun j u hu => (HB.out.cell hbl).trans (HC.out j u hu)) k hlt'
        obtain ⟨x, HX⟩ : ∃ x, Hid (x = ls[k]) := ⟨_, Lib.hid rfl⟩
        rw [← HX.out] at hrd
        obtain ⟨g0, g1, g2, g3, g4, g5, g6, g7, g8, g9, g10⟩ := hrd.all
        clear hrd
        go_wp2_with fail
        refine (toBookSet_any x _).mono ?_
        rintro e w2 ⟨rfl, hb2⟩
        have HB1 := Lib.hid (HB.out.trans (hb2.mono HB.out.size))
        have HO1 := Lib.hid (own_kept HO.out (w' := w2) (fun b e => hb2.block b (by have := HO.out.lt b e; omega)))
        obtain ⟨⟨u0, _, hc0⟩, hf0, _, _⟩ := own_at HO1.out (k * 11) (by omega)
        obtain ⟨⟨u1, _, hc1⟩, hf1, _, _⟩ := own_at HO1.out (k * 11 + 1) (by omega)
        obtain ⟨⟨u2, _, hc2⟩, hf2, _, _⟩ := own_at HO1.out (k * 11 + 2) (by omega)
        obtain ⟨⟨u3, _, hc3⟩, hf3, _, _⟩ := own_at HO1.out (k * 11 + 3) (by omega)
        obtain ⟨⟨u4, _, hc4⟩, hf4, _, _⟩ := own_at HO1.out (k * 11 + 4) (by omega)
        obtain ⟨⟨u5, _, hc5⟩, hf5, _, _⟩ := own_at HO1.out (k * 11 + 5) (by omega)
        obtain ⟨⟨u6, _, hc6⟩, hf6, _, _⟩ := own_at HO1.out (k * 11 + 6) (by omega)
        obtain ⟨⟨u7, _, hc7⟩, hf7, _, _⟩ := own_at HO1.out (k * 11 + 7) (by omega)
        obtain ⟨⟨u8, _, hc8⟩, hf8, _, _⟩ := own_at HO1.out (k * 11 + 8) (by omega)
        obtain ⟨⟨u9, _, hc9⟩, hf9, _, _⟩ := own_at HO1.out (k * 11 + 9) (by omega)
        obtain ⟨⟨u10, _, hc10⟩, hf10, _, _⟩ := own_at HO1.out (k * 11 + 10) (by omega)
        have HO2 := Lib.hid (own_setN (own_setN (own_setN (own_setN (own_setN (own_setN (own_setN (own_setN (own_setN (own_setN (own_setN (HO1.out) (k * 11) (.string x.name)) (k * 11 + 1) (.int .i64 x.kind)) (k * 11 + 2) (.string x.frm)) (k * 11 + 3) (.string x.b0)) (k * 11 + 4) (.string x.b1)) (k * 11 + 5) (.string x.b2)) (k * 11 + 6) (.string x.b3)) (k * 11 + 7) (.string x.b4)) (k * 11 + 8) (.string x.b5)) (k * 11 + 9) (.string x.b6)) (k * 11 + 10) (.string x.b7))
        have HB2 := Lib.hid ((((((((((((HB1.out).setCell (p := ⟨w.heap.size, k * 11, none⟩) (Nat.le_refl _) (.string x.name)).setCell (p := ⟨w.heap.size, k * 11 + 1, none⟩) (Nat.le_refl _) (.int .i64 x.kind)).setCell (p := ⟨w.heap.size, k * 11 + 2, none⟩) (Nat.le_refl _) (.string x.frm)).setCell (p := ⟨w.heap.size, k * 11 + 3, none⟩) (Nat.le_refl _) (.string x.b0)).setCell (p := ⟨w.heap.size, k * 11 + 4, none⟩) (Nat.le_refl _) (.string x.b1)).setCell (p := ⟨w.heap.size, k * 11 + 5, none⟩) (Nat.le_refl _) (.string x.b2)).setCell (p := ⟨w.heap.size, k * 11 + 6, none⟩) (Nat.le_refl _) (.string x.b3)).setCell (p := ⟨w.heap.size, k * 11 + 7, none⟩) (Nat.le_refl _) (.string x.b4)).setCell (p := ⟨w.heap.size, k * 11 + 8, none⟩) (Nat.le_refl _) (.string x.b5)).setCell (p := ⟨w.heap.size, k * 11 + 9, none⟩) (Nat.le_refl _) (.string x.b6)).setCell (p := ⟨w.heap.size, k * 11 + 10, none⟩) (Nat.le_refl _) (.string x.b7))
        have HT2 := Lib.hid (show ((((((((((((xs.set (k * 11) (.string x.name)).set (k * 11 + 1) (.int .i64 x.kind)).set (k * 11 + 2) (.string x.frm)).set (k * 11 + 3) (.string x.b0)).set (k * 11 + 4) (.string x.b1)).set (k * 11 + 5) (.string x.b2)).set (k * 11 + 6) (.string x.b3)).set (k * 11 + 7) (.string x.b4)).set (k * 11 + 8) (.string x.b5)).set (k * 11 + 9) (.string x.b6)).set (k * 11 + 10) (.string x.b7))).take ((k + 1) * 11) = kcs (ls.take (k + 1)) from by
          have hl : k * 11 + 10 < xs.length := by have := HO.out.1; omega
          rw [take_set11 xs k _ _ _ _ _ _ _ _ _ _ _ hl, HT.out, List.take_succ_eq_append_getElem hlt', kcs_snoc, ← HX.out]
          rfl)
        clear g0 g1 g2 g3 g4 g5 g6 g7 g8 g9 g10 hb2 HO HO1 HB HB1 HT
        go_wp2
        go_roundw
        case rel => exact ⟨k + 1, _, by omega, by go_num, HO2, HT2, HB2⟩
        case measure => simp [intOf]; omega
      · have hkn : k = n := by omega
        have HX := Lib.hid (show xs = kcs ls from by
          have hl := HO.out.1
          have ht := HT.out
          rw [List.take_of_length_le (by omega), List.take_of_length_le (by rw [HN.out]; omega)] at ht
          exact ht)
        clear hkn
        go_wp2
        go_ret
        refine ⟨_, rfl, ?_, HB.out⟩
        rw [HN.out, ← HX.out]
        exact HO.out

set_option maxHeartbeats 2000000 in
theorem eqBookSetS_same (va vb : Value) (ls : List SetM) (w : World) (ha : Sl w 11 va ls.length (kcs ls)) (hb : Sl w 11 vb ls.length (kcs ls)) (hva : ∀ b, va.ownBlock = some b → b < w.heap.size) (hvb : ∀ b, vb.ownBlock = some b → b < w.heap.size) (hs : ls.length ≤ 1048576) :
    Calls Try.prog 37 #[va, vb] w fun e w' => e = .returned (.bool true) ∧ Below w.heap.size w w' := by
  obtain ⟨n, HN⟩ : ∃ n, Hid (ls.length = n) := ⟨_, Lib.hid rfl⟩
  rw [HN.out] at ha hb hs
  have hnot : ∀ (x : Bool) (w : World), (Op.unary .not (.bool x)).run Try.prog w = .ok (.bool (!x)) w := fun _ _ => rfl
  by_cases hn : n = 0
  · subst hn
    obtain ⟨_, A, c, rfl, _, _, _⟩ := ha
    obtain ⟨_, A', c', rfl, _, _, _⟩ := hb
    clear hva hvb
    go_enter Try.func37, Try.ntmps37
    go_wp2
    go_loopw [5] (fun i wr => i = .int .i64 0 ∧ wr = w) (fun _ _ => 0)
    case atStart => exact ⟨rfl, rfl⟩
    case round =>
      obtain ⟨rfl, rfl⟩ := hrel
      go_wp2
      go_ret
      exact ⟨rfl, Below.refl _ _⟩
  · obtain ⟨b, off, c, rfl, hnc, hcm, hcell⟩ := ha.form (by omega)
    obtain ⟨b', off', c', rfl, hnc', hcm', hcell'⟩ := hb.form (by omega)
    have hbl : b < w.heap.size := hva b rfl
    have hbl' : b' < w.heap.size := hvb b' rfl
    have HC := Lib.hid hcell
    have HC' := Lib.hid hcell'
    unfold maxLen at hcm hcm'
    clear hcell hcell' ha hb hva hvb
    go_enter Try.func37, Try.ntmps37
    go_wp2
    go_loopw [5] (fun i wr => ∃ (k : Nat), k ≤ n ∧ i = .int .i64 k ∧ Hid (Below w.heap.size w wr)) (fun i _ => n - (intOf i).toNat)
    case atStart => exact ⟨0, Nat.zero_le _, rfl, Lib.hid (Below.refl _ _)⟩
    case round =>
      obtain ⟨k, hk, rfl, HB⟩ := hrel
      by_cases hlt : k < n
      · have hlt' : k < ls.length := by rw [HN.out]; exact hlt
        have hrd := set_read (fun j u hu => (HB.out.cell hbl).trans (HC.out j u hu)) k hlt'
        have hrd' := set_read (fun j u hu => (HB.out.cell hbl').trans (HC'.out j u hu)) k hlt'
        generalize ls[k] = x at hrd hrd'
        obtain ⟨g0, g1, g2, g3, g4, g5, g6, g7, g8, g9, g10⟩ := hrd.all
        obtain ⟨q0, q1, q2, q3, q4, q5, q6, q7, q8, q9, q10⟩ := hrd'.all
        clear hrd hrd'
        have hk1 : (k : Int) < (n : Int) := by omega
        go_wp2_with fail
        go_region_held3 (fun w' => w'.cell? ⟨b, off + k * 11, none⟩ = some (.string x.name) ∧ w'.cell? ⟨b, off + k * 11 + 1, none⟩ = some (.int .i64 x.kind) ∧ w'.cell? ⟨b, off + k * 11 + 2, none⟩ = some (.string x.frm) ∧ w'.cell? ⟨b, off + k * 11 + 3, none⟩ = some (.string x.b0) ∧ w'.cell? ⟨b, off + k * 11 + 4, none⟩ = some (.string x.b1) ∧ w'.cell? ⟨b, off + k * 11 + 5, none⟩ = some (.string x.b2) ∧ w'.cell? ⟨b, off + k * 11 + 6, none⟩ = some (.string x.b3) ∧ w'.cell? ⟨b, off + k * 11 + 7, none⟩ = some (.string x.b4) ∧ w'.cell? ⟨b, off + k * 11 + 8, none⟩ = some (.string x.b5) ∧ w'.cell? ⟨b, off + k * 11 + 9, none⟩ = some (.string x.b6) ∧ w'.cell? ⟨b, off + k * 11 + 10, none⟩ = some (.string x.b7) ∧ w'.cell? ⟨b', off' + k * 11, none⟩ = some (.string x.name) ∧ w'.cell? ⟨b', off' + k * 11 + 1, none⟩ = some (.int .i64 x.kind) ∧ w'.cell? ⟨b', off' + k * 11 + 2, none⟩ = some (.string x.frm) ∧ w'.cell? ⟨b', off' + k * 11 + 3, none⟩ = some (.string x.b0) ∧ w'.cell? ⟨b', off' + k * 11 + 4, none⟩ = some (.string x.b1) ∧ w'.cell? ⟨b', off' + k * 11 + 5, none⟩ = some (.string x.b2) ∧ w'.cell? ⟨b', off' + k * 11 + 6, none⟩ = some (.string x.b3) ∧ w'.cell? ⟨b', off' + k * 11 + 7, none⟩ = some (.string x.b4) ∧ w'.cell? ⟨b', off' + k * 11 + 8, none⟩ = some (.string x.b5) ∧ w'.cell? ⟨b', off' + k * 11 + 9, none⟩ = some (.string x.b6) ∧ w'.cell? ⟨b', off' + k * 11 + 10, none⟩ = some (.string x.b7))
          (first
            | go_keep
            | (go_split_ands
               refine ⟨?_, ?_, ?_, ?_, ?_, ?_, ?_, ?_, ?_, ?_, ?_, ?_, ?_, ?_, ?_, ?_, ?_, ?_, ?_, ?_, ?_, ?_⟩
               all_goals (rw [hb2.cell (by have := HB.out.size; simp <;> omega)]; assumption)))
          ((go_at_call 74; ((with_reducible refine (eqBookSet_same x _).mono ?_); rintro e w2 ⟨rfl, hb2⟩)))
        all_goals
          have HB2 := Lib.hid (HB.out.drew.trans (hb2.mono (by have := HB.out.size; simp; omega)))
          clear HB hb2 g0 g1 g2 g3 g4 g5 g6 g7 g8 g9 g10 q0 q1 q2 q3 q4 q5 q6 q7 q8 q9 q10
          go_wp2
          go_roundw
          case rel => exact ⟨k + 1, by omega, by go_num, HB2⟩
          case measure => simp [intOf]; omega
      · go_wp2
        go_ret
        exact ⟨rfl, HB.out⟩
end Go.Proofs.Ytoeaeckkmpdpiaa
