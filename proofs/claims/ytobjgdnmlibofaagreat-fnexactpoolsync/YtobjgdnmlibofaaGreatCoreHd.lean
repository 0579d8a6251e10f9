/-
  A core of the call's own marked: what it holds then; sets and cores asked for their marks.
-/
import Derived.Test.YtobjgdnmlibofaaGreatCoreO
import Derived.Test.YtobjgdnmlibofaaGreatIntMk
set_option maxRecDepth 100000
namespace Go.Proofs.YtobjgdnmlibofaaGreat
open Go.ChangeShapes Go.WideShapes Go.ChangeAt Go.RowKit Go.Proofs.Palim

set_option maxHeartbeats 4000000 in
theorem heldCoreSetS_any (v : Value) (n k : Nat) (xs : List Value) (w : World) (h : Sl w 31 v n xs) (hm : SMk k xs n) (hv : ∀ b, v.ownBlock = some b → b < w.heap.size) (hs : n ≤ 1048576) (hk0 : 1 ≤ k) (hk1 : k ≤ 100000000) :
    Calls Tryz.prog 84 #[v, .int .i64 (k : Int)] w (HeldPost ((k + n * 7 : Nat) : Int) w) := by
  by_cases hn : n = 0
  · subst hn
    obtain ⟨_, A, c, rfl, _, _, _⟩ := h
    clear hv hm
    go_enter Tryz.func84, Tryz.ntmps84
    go_wp2
    go_loopw [1, 5] (fun l i wr => l = .int .i64 (k : Int) ∧ i = .int .i64 0 ∧ wr = w) (fun _ _ _ => 0)
    case atStart => exact ⟨rfl, rfl, rfl⟩
    case round =>
      obtain ⟨rfl, rfl, rfl⟩ := hrel
      go_wp2
      go_ret
      exact ⟨rfl, Below.refl _ _⟩
  · obtain ⟨b, off, c, rfl, hnc, hcm, hcell⟩ := h.form (by omega)
    have hbl : b < w.heap.size := hv b rfl
    have HC := Lib.hid hcell
    have HM := Lib.hid hm
    unfold maxLen at hcm
    clear hcell h hv hm
    go_enter Tryz.func84, Tryz.ntmps84
    go_wp2
    go_loopw [1, 5] (fun l i wr => ∃ (j kk : Nat), j ≤ n ∧ Hid (kk = k + j * 7) ∧ l = .int .i64 (kk : Int) ∧ i = .int .i64 (j : Int) ∧ Hid (Below w.heap.size w wr)) (fun _ i _ => n - (RowKit.intOf i).toNat)
    case atStart => exact ⟨0, k, Nat.zero_le _, Lib.hid (by omega), rfl, rfl, Lib.hid (Below.refl _ _)⟩
    case round =>
      obtain ⟨j, kk, hj, HK, rfl, rfl, HB⟩ := hrel
      have hkb : kk ≤ 107340032 := by have := HK.out; omega
      have hkb1 : 1 ≤ kk := by have := HK.out; omega
      by_cases hlt : j < n
      · obtain ⟨a0, a1, a2, a3, a4, a5, a6⟩ := HM.out j hlt
        rw [← HK.out] at a0 a1 a2 a3 a4 a5 a6
        have h0 : wr.cell? ⟨b, off + j * 31, none⟩ = some (.string (mkText kk)) := (HB.out.cell hbl).trans (HC.out _ _ a0)
        have h1 : wr.cell? ⟨b, off + j * 31 + 1, none⟩ = some (.int .i64 ((kk : Int) + 1)) := (HB.out.cell hbl).trans (HC.out _ _ a1)
        have h2 : wr.cell? ⟨b, off + j * 31 + 2, none⟩ = some (.string (mkText (kk + 2))) := (HB.out.cell hbl).trans (HC.out _ _ a2)
        have h3 : wr.cell? ⟨b, off + j * 31 + 27, none⟩ = some (.int .i64 ((kk : Int) + 3)) := (HB.out.cell hbl).trans (HC.out _ _ a3)
        have h4 : wr.cell? ⟨b, off + j * 31 + 27 + 1, none⟩ = some (.int .i64 ((kk : Int) + 4)) := (HB.out.cell hbl).trans (HC.out _ _ a4)
        have h5 : wr.cell? ⟨b, off + j * 31 + 27 + 2, none⟩ = some (.int .i64 ((kk : Int) + 5)) := (HB.out.cell hbl).trans (HC.out _ _ a5)
        have h6 : wr.cell? ⟨b, off + j * 31 + 30, none⟩ = some (.bool (decide ((kk + 6) % 3 = 0))) := (HB.out.cell hbl).trans (HC.out _ _ a6)
        have hrem : (((kk : Int) + 1 + 1 + 1 + 1 + 1 + 1) % 3 == 0) = decide ((kk + 6) % 3 = 0) := by
          rw [show (kk : Int) + 1 + 1 + 1 + 1 + 1 + 1 = ((kk + 6 : Nat) : Int) by omega]
          by_cases h3 : (kk + 6) % 3 = 0
          · rw [decide_eq_true h3]; simp; omega
          · rw [decide_eq_false h3]; simp; omega
        clear a0 a1 a2 a3 a4 a5 a6
        have hj1 : (j : Int) < (n : Int) := by omega
        have hbr : b < wr.heap.size := Nat.lt_of_lt_of_le hbl HB.out.size
        go_wp2_with fail
        go_region_held3 (fun w' => w'.cell? ⟨b, off + j * 31, none⟩ = some (.string (mkText kk)))
          (first
            | go_keep
            | (rw [hb2.cell (by simp <;> omega)]; assumption))
          ((go_at_call 125; ((refine (markText_any kk _ (by omega) (by omega)).mono ?_); rintro e w2 ⟨rfl, hb2⟩)))
        have HB2 := Lib.hid (HB.out.drew.trans (hb2.mono (by have := HB.out.size; simp; omega)))
        have k1 := (hb2.cell (by simpa using hbr)).trans h1
        have k2 := (hb2.cell (by simpa using hbr)).trans h2
        have k3 := (hb2.cell (by simpa using hbr)).trans h3
        have k4 := (hb2.cell (by simpa using hbr)).trans h4
        have k5 := (hb2.cell (by simpa using hbr)).trans h5
        have k6 := (hb2.cell (by simpa using hbr)).trans h6
        have hbr2 : b < w2.heap.size := Nat.lt_of_lt_of_le hbl HB2.out.size
        clear HB hb2 h0 h1 h2 h3 h4 h5 h6
        go_wp2_with fail
        go_region_held3 (fun w' => w'.cell? ⟨b, off + j * 31 + 2, none⟩ = some (.string (mkText (kk + 2))))
          (first
            | go_keep
            | (rw [hb2.cell (by simp <;> omega)]; assumption))
          ((go_at_call 125; ((refine (markText_any (kk + 2) _ (by omega) (by omega)).mono ?_); rintro e w3 ⟨rfl, hb2⟩)))
        have HB3 := Lib.hid (HB2.out.drew.trans (hb2.mono (by have := HB2.out.size; simp; omega)))
        have l3 := (hb2.cell (by simpa using hbr2)).trans k3
        have l4 := (hb2.cell (by simpa using hbr2)).trans k4
        have l5 := (hb2.cell (by simpa using hbr2)).trans k5
        have l6 := (hb2.cell (by simpa using hbr2)).trans k6
        clear HB2 hb2 k1 k2 k3 k4 k5 k6
        go_wp2
        go_roundw
        case rel => exact ⟨j + 1, kk + 7, by omega, Lib.hid (by have := HK.out; omega), by go_num, by go_num, HB3⟩
        case measure => simp [RowKit.intOf]; omega
      · have HKN := Lib.hid (show kk = k + n * 7 from by have := HK.out; omega)
        go_wp2
        go_ret
        exact ⟨ret_int (by rw [HKN.out]), HB.out⟩

/-- A core of the call's own that holds the marks from k on (its numbers of elements). -/
structure CoreHd (k : Nat) (w : World) (base : Nat) (vs vd vp vi : Value) (ns nd np ni : Nat) : Prop where
  s : ∃ xs, w.ownsRow base 89 31 vs ns xs ∧ SMk k xs ns
  d : w.ownsRow base 126 3 vd nd (ecs (emarks (k + ns * 7) nd))
  p : w.ownsRow base 86 3 vp np (pcs (pmarks (k + ns * 7 + 3 * nd) np))
  i : w.ownsRow base 3 1 vi ni (ics (imarks (k + ns * 7 + 3 * nd + 3 * np) ni))
theorem CoreHd.kept {k : Nat} {w w' : World} {base : Nat} {vs vd vp vi : Value} {ns nd np ni : Nat} (h : CoreHd k w base vs vd vp vi ns nd np ni) (hb : ∀ b, b < w.heap.size → base ≤ b → w'.heap[b]? = w.heap[b]?) : CoreHd k w' base vs vd vp vi ns nd np ni := by
  obtain ⟨xs, h1, h2⟩ := h.s
  exact ⟨⟨xs, own_kept h1 fun b e => hb b (h1.lt b e).2 (h1.lt b e).1, h2⟩, own_kept h.d fun b e => hb b (h.d.lt b e).2 (h.d.lt b e).1, own_kept h.p fun b e => hb b (h.p.lt b e).2 (h.p.lt b e).1, own_kept h.i fun b e => hb b (h.i.lt b e).2 (h.i.lt b e).1⟩
def cend (k ns nd np ni : Nat) : Nat := k + ns * 7 + 3 * nd + 3 * np + ni

set_option maxHeartbeats 2000000 in
theorem markCoreH_any (vs vd vp vi : Value) (c : CoreM) (k base : Nat) (w : World) (h : CoreOwn w base vs vd vp vi c) (hs : CoreShort c) (hk0 : 1 ≤ k) (hk1 : k ≤ 70000000) :
    Calls Tryz.prog 37 #[cv c vs vd vp vi, .int .i64 (k : Int)] w fun e w' => e = .returned (.int .i64 ((cend k c.sets.length c.ddt.length c.parts.length c.safe.length : Nat) : Int)) ∧ CoreHd k w' base vs vd vp vi c.sets.length c.ddt.length c.parts.length c.safe.length ∧ Turned (CTurns vs vd vp vi) w w' := by
  have HO := Lib.hid h
  have HS := Lib.hid hs
  have h1 := hs.s
  have h2 := hs.d
  have h3 := hs.p
  have h4 := hs.i
  obtain ⟨A0, k0, A1, k1, A2, k2, A3, k3, rfl, rfl, rfl, rfl⟩ := h.reads.forms
  have hn : Below w.heap.size w (w.alloc (.cells #[.int .i64 c.txg, .slice A0 c.sets.length k0, .slice A1 c.ddt.length k1, .slice A2 c.parts.length k2, .bool c.dirty, .slice A3 c.safe.length k3, .int .i64 c.logn] 44)) := (Below.refl _ w).alloc (Nat.le_refl _) _
  have XC := Lib.hid (show Box _ w.heap.size [.int .i64 c.txg, .slice A0 c.sets.length k0, .slice A1 c.ddt.length k1, .slice A2 c.parts.length k2, .bool c.dirty, .slice A3 c.safe.length k3, .int .i64 c.logn] from box_new w #[.int .i64 c.txg, .slice A0 c.sets.length k0, .slice A1 c.ddt.length k1, .slice A2 c.parts.length k2, .bool c.dirty, .slice A3 c.safe.length k3, .int .i64 c.logn] 44)
  have HO1 := Lib.hid (HO.out.below hn)
  have HT1 := Lib.hid (turned_of_below (S := CTurns (.slice A0 c.sets.length k0) (.slice A1 c.ddt.length k1) (.slice A2 c.parts.length k2) (.slice A3 c.safe.length k3)) hn)
  have HN := Lib.hid (show ∀ b, CTurns (.slice A0 c.sets.length k0) (.slice A1 c.ddt.length k1) (.slice A2 c.parts.length k2) (.slice A3 c.safe.length k3) b → b ≠ w.heap.size from fun b e => by
    rcases e with e | e | e | e
    · have := (HO.out.s.lt b e).2; omega
    · have := (HO.out.d.lt b e).2; omega
    · have := (HO.out.p.lt b e).2; omega
    · have := (HO.out.i.lt b e).2; omega)
  clear h hs hn HO
  go_enter Tryz.func37, Tryz.ntmps37
  go_upto_region 1 with fail
  obtain ⟨W0, HWE⟩ : ∃ W0, w.alloc (.cells #[.int .i64 c.txg, .slice A0 c.sets.length k0, .slice A1 c.ddt.length k1, .slice A2 c.parts.length k2, .bool c.dirty, .slice A3 c.safe.length k3, .int .i64 c.logn] 44) = W0 := ⟨_, rfl⟩
  rw [HWE] at XC HO1 HT1 ⊢
  clear HWE
  have n1 := XC.out.cell 1 rfl
  go_wp2_with fail
  refine (markCoreSetS_any _ _ k base _ _ HO1.out.s h1 hk0 (by omega)).mono ?_
  rintro e w2 ⟨rfl, ⟨xs, hxs, hmk⟩, ht⟩
  have XC2 := Lib.hid (XC.out.kept (ht.block _ XC.out.lt (fun e => HN.out _ (Or.inl e) rfl)))
  have HT2 := Lib.hid (HT1.out.trans (ht.mono (fun b _ e => Or.inl e)))
  have OS2 := Lib.hid hxs
  have HMK := Lib.hid hmk
  have OD2 := Lib.hid (own_kept HO1.out.d (w' := w2) (fun b e => ht.block b (HO1.out.d.lt b e).2 (fun e' => HO1.out.sd b e' e)))
  have OP2 := Lib.hid (own_kept HO1.out.p (w' := w2) (fun b e => ht.block b (HO1.out.p.lt b e).2 (fun e' => HO1.out.sp b e' e)))
  have OI2 := Lib.hid (own_kept HO1.out.i (w' := w2) (fun b e => ht.block b (HO1.out.i.lt b e).2 (fun e' => HO1.out.si b e' e)))
  clear n1 XC HT1 ht hxs hmk
  have n2 := XC2.out.cell 2 rfl
  go_wp2_with fail
  refine (markDdtEntryS_any _ _ (k + c.sets.length * 7) base _ _ OD2.out h2 (by omega) (by omega)).mono ?_
  rintro e w3 ⟨rfl, hod, ht⟩
  have XC3 := Lib.hid (XC2.out.kept (ht.block _ XC2.out.lt (fun e => HN.out _ (Or.inr (Or.inl e)) rfl)))
  have HT3 := Lib.hid (HT2.out.trans (ht.mono (fun b _ e => Or.inr (Or.inl e))))
  have OS3 := Lib.hid (own_kept OS2.out (w' := w3) (fun b e => ht.block b (OS2.out.lt b e).2 (fun e' => HO1.out.sd b e e')))
  have OD3 := Lib.hid hod
  have OP3 := Lib.hid (own_kept OP2.out (w' := w3) (fun b e => ht.block b (OP2.out.lt b e).2 (fun e' => HO1.out.dp b e' e)))
  have OI3 := Lib.hid (own_kept OI2.out (w' := w3) (fun b e => ht.block b (OI2.out.lt b e).2 (fun e' => HO1.out.di b e' e)))
  clear n2 XC2 HT2 OS2 OD2 OP2 OI2 ht hod
  have n3 := XC3.out.cell 3 rfl
  go_wp2_with fail
  refine (markPtrS_any _ _ (k + c.sets.length * 7 + 3 * c.ddt.length) base _ _ OP3.out h3 (by omega) (by omega)).mono ?_
  rintro e w4 ⟨rfl, hop, ht⟩
  have XC4 := Lib.hid (XC3.out.kept (ht.block _ XC3.out.lt (fun e => HN.out _ (Or.inr (Or.inr (Or.inl e))) rfl)))
  have HT4 := Lib.hid (HT3.out.trans (ht.mono (fun b _ e => Or.inr (Or.inr (Or.inl e)))))
  have OS4 := Lib.hid (own_kept OS3.out (w' := w4) (fun b e => ht.block b (OS3.out.lt b e).2 (fun e' => HO1.out.sp b e e')))
  have OD4 := Lib.hid (own_kept OD3.out (w' := w4) (fun b e => ht.block b (OD3.out.lt b e).2 (fun e' => HO1.out.dp b e e')))
  have OP4 := Lib.hid hop
  have OI4 := Lib.hid (own_kept OI3.out (w' := w4) (fun b e => ht.block b (OI3.out.lt b e).2 (fun e' => HO1.out.pi b e' e)))
  clear n3 XC3 HT3 OS3 OD3 OP3 OI3 ht hop
  have n5 := XC4.out.cell 5 rfl
  go_wp2_with fail
  refine (markIntM_any _ _ (k + c.sets.length * 7 + 3 * c.ddt.length + 3 * c.parts.length) base _ _ OI4.out h4 (by omega) (by omega)).mono ?_
  rintro e w5 ⟨rfl, hoi, ht⟩
  have HT5 := Lib.hid (HT4.out.trans (ht.mono (fun b _ e => Or.inr (Or.inr (Or.inr e)))))
  have OS5 := Lib.hid (own_kept OS4.out (w' := w5) (fun b e => ht.block b (OS4.out.lt b e).2 (fun e' => HO1.out.si b e e')))
  have OD5 := Lib.hid (own_kept OD4.out (w' := w5) (fun b e => ht.block b (OD4.out.lt b e).2 (fun e' => HO1.out.di b e e')))
  have OP5 := Lib.hid (own_kept OP4.out (w' := w5) (fun b e => ht.block b (OP4.out.lt b e).2 (fun e' => HO1.out.pi b e e')))
  have OI5 := Lib.hid hoi
  clear n5 XC4 HT4 OS4 OD4 OP4 OI4 ht hoi
  go_wp2
  go_ret
  exact ⟨rfl, ⟨⟨xs, OS5.out, HMK.out⟩, OD5.out, OP5.out, OI5.out⟩, HT5.out⟩

set_option maxHeartbeats 2000000 in
theorem heldCore_any (vs vd vp vi : Value) (c : CoreM) (k base : Nat) (w : World) (h : CoreHd k w base vs vd vp vi c.sets.length c.ddt.length c.parts.length c.safe.length) (hs : CoreShort c) (hk0 : 1 ≤ k) (hk1 : k ≤ 70000000) :
    Calls Tryz.prog 39 #[cv c vs vd vp vi, .int .i64 (k : Int)] w (HeldPost ((cend k c.sets.length c.ddt.length c.parts.length c.safe.length : Nat) : Int) w) := by
  have h1 := hs.s
  have h2 := hs.d
  have h3 := hs.p
  have h4 := hs.i
  obtain ⟨xs, hxs, hmk⟩ := h.s
  obtain ⟨_, A0, k0, rfl, _, _, _⟩ := sl_of_own hxs
  obtain ⟨_, A1, k1, rfl, _, _, _⟩ := sl_of_own h.d
  obtain ⟨_, A2, k2, rfl, _, _, _⟩ := sl_of_own h.p
  obtain ⟨_, A3, k3, rfl, _, _, _⟩ := sl_of_own h.i
  have HMK := Lib.hid hmk
  have hn : Below w.heap.size w (w.alloc (.cells #[.int .i64 c.txg, .slice A0 c.sets.length k0, .slice A1 c.ddt.length k1, .slice A2 c.parts.length k2, .bool c.dirty, .slice A3 c.safe.length k3, .int .i64 c.logn] 44)) := (Below.refl _ w).alloc (Nat.le_refl _) _
  have XC := Lib.hid (show Box _ w.heap.size [.int .i64 c.txg, .slice A0 c.sets.length k0, .slice A1 c.ddt.length k1, .slice A2 c.parts.length k2, .bool c.dirty, .slice A3 c.safe.length k3, .int .i64 c.logn] from box_new w #[.int .i64 c.txg, .slice A0 c.sets.length k0, .slice A1 c.ddt.length k1, .slice A2 c.parts.length k2, .bool c.dirty, .slice A3 c.safe.length k3, .int .i64 c.logn] 44)
  have OS := Lib.hid (own_kept hxs (fun b e => hn.block b (hxs.lt b e).2))
  have OD := Lib.hid (own_kept h.d (fun b e => hn.block b (h.d.lt b e).2))
  have OP := Lib.hid (own_kept h.p (fun b e => hn.block b (h.p.lt b e).2))
  have OI := Lib.hid (own_kept h.i (fun b e => hn.block b (h.i.lt b e).2))
  have B0 := Lib.hid hn
  clear h hs hn hxs hmk
  go_enter Tryz.func39, Tryz.ntmps39
  go_upto_region 1 with fail
  obtain ⟨W0, HWE⟩ : ∃ W0, w.alloc (.cells #[.int .i64 c.txg, .slice A0 c.sets.length k0, .slice A1 c.ddt.length k1, .slice A2 c.parts.length k2, .bool c.dirty, .slice A3 c.safe.length k3, .int .i64 c.logn] 44) = W0 := ⟨_, rfl⟩
  rw [HWE] at XC OS OD OP OI B0 ⊢
  clear HWE
  have n1 := XC.out.cell 1 rfl
  go_wp2_with fail
  refine (heldCoreSetS_any _ _ k _ _ (sl_of_own OS.out) HMK.out (fun b e => (OS.out.lt b e).2) h1 hk0 (by omega)).mono ?_
  rintro e w2 ⟨rfl, hb⟩
  have XC2 := Lib.hid (XC.out.below hb XC.out.lt)
  have OD2 := Lib.hid (own_kept OD.out (fun b e => hb.block b (OD.out.lt b e).2))
  have OP2 := Lib.hid (own_kept OP.out (fun b e => hb.block b (OP.out.lt b e).2))
  have OI2 := Lib.hid (own_kept OI.out (fun b e => hb.block b (OI.out.lt b e).2))
  have B2 := Lib.hid (B0.out.trans (hb.mono B0.out.size))
  clear hb XC OD OP OI B0
  clear n1 OS
  have n2 := XC2.out.cell 2 rfl
  have g2 : ¬ ((k + c.sets.length * 7 : Nat) : Int) < 0 := by omega
  go_wp2_with fail
  refine (heldDdtEntryS_any _ _ (k + c.sets.length * 7) _ (sl_of_own OD2.out) (fun b e => (OD2.out.lt b e).2) h2 (by omega) (by omega)).mono ?_
  rintro e w3 ⟨rfl, hb⟩
  have XC3 := Lib.hid (XC2.out.below hb XC2.out.lt)
  have OD3 := Lib.hid (own_kept OD2.out (fun b e => hb.block b (OD2.out.lt b e).2))
  have OP3 := Lib.hid (own_kept OP2.out (fun b e => hb.block b (OP2.out.lt b e).2))
  have OI3 := Lib.hid (own_kept OI2.out (fun b e => hb.block b (OI2.out.lt b e).2))
  have B3 := Lib.hid (B2.out.trans (hb.mono B2.out.size))
  clear hb XC2 OD2 OP2 OI2 B2
  clear n2 g2
  have n3 := XC3.out.cell 3 rfl
  have g3 : ¬ ((k + c.sets.length * 7 + 3 * c.ddt.length : Nat) : Int) < 0 := by omega
  go_wp2_with fail
  refine (heldPtrS_any _ _ (k + c.sets.length * 7 + 3 * c.ddt.length) _ (sl_of_own OP3.out) (fun b e => (OP3.out.lt b e).2) h3 (by omega) (by omega)).mono ?_
  rintro e w4 ⟨rfl, hb⟩
  have XC4 := Lib.hid (XC3.out.below hb XC3.out.lt)
  have OD4 := Lib.hid (own_kept OD3.out (fun b e => hb.block b (OD3.out.lt b e).2))
  have OP4 := Lib.hid (own_kept OP3.out (fun b e => hb.block b (OP3.out.lt b e).2))
  have OI4 := Lib.hid (own_kept OI3.out (fun b e => hb.block b (OI3.out.lt b e).2))
  have B4 := Lib.hid (B3.out.trans (hb.mono B3.out.size))
  clear hb XC3 OD3 OP3 OI3 B3
  clear n3 g3
  have n5 := XC4.out.cell 5 rfl
  have g4 : ¬ ((k + c.sets.length * 7 + 3 * c.ddt.length + 3 * c.parts.length : Nat) : Int) < 0 := by omega
  go_wp2_with fail
  refine (heldIntS_any _ _ (k + c.sets.length * 7 + 3 * c.ddt.length + 3 * c.parts.length) _ (sl_of_own OI4.out) (fun b e => (OI4.out.lt b e).2) h4 (by omega) (by omega)).mono ?_
  rintro e w5 ⟨rfl, hb⟩
  have XC5 := Lib.hid (XC4.out.below hb XC4.out.lt)
  have OD5 := Lib.hid (own_kept OD4.out (fun b e => hb.block b (OD4.out.lt b e).2))
  have OP5 := Lib.hid (own_kept OP4.out (fun b e => hb.block b (OP4.out.lt b e).2))
  have OI5 := Lib.hid (own_kept OI4.out (fun b e => hb.block b (OI4.out.lt b e).2))
  have B5 := Lib.hid (B4.out.trans (hb.mono B4.out.size))
  clear hb XC4 OD4 OP4 OI4 B4
  clear n5 g4
  have g5 : ¬ ((k + c.sets.length * 7 + 3 * c.ddt.length + 3 * c.parts.length + c.safe.length : Nat) : Int) < 0 := by omega
  go_wp2
  go_ret
  exact ⟨rfl, B5.out⟩
end Go.Proofs.YtobjgdnmlibofaaGreat
