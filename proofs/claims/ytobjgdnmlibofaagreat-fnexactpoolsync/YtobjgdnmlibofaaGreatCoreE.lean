/-
  The laws' helpers on the core: same, and how much room it takes.
-/
import Derived.Test.YtobjgdnmlibofaaGreatCoreV
set_option maxRecDepth 100000
namespace Go.Proofs.YtobjgdnmlibofaaGreat
open Go.ChangeShapes Go.WideShapes Go.ChangeAt Go.RowKit Go.Proofs.Palim

set_option maxHeartbeats 2000000 in
theorem eqCore_same (vs vd vp vi us ud up ui : Value) (c : CoreM) (w : World) (h : CoreR w vs vd vp vi c) (h' : CoreR w us ud up ui c) (hs : CoreShort c) :
    Calls Tryz.prog 31 #[cv c vs vd vp vi, cv c us ud up ui] w fun e w' => e = .returned (.bool true) ∧ Below w.heap.size w w' := by
  have hnot : ∀ (x : Bool) (w : World), (Op.unary .not (.bool x)).run Tryz.prog w = .ok (.bool (!x)) w := fun _ _ => rfl
  obtain ⟨b1, b2, hsz, hB⟩ := box2 w #[.int .i64 c.txg, vs, vd, vp, .bool c.dirty, vi, .int .i64 c.logn] #[.int .i64 c.txg, us, ud, up, .bool c.dirty, ui, .int .i64 c.logn] 44 44
  have X1 := Lib.hid b1
  have X2 := Lib.hid b2
  have B0 := Lib.hid hB
  have HR := Lib.hid h
  have HQ := Lib.hid h'
  have HS := Lib.hid hs
  obtain ⟨A0, k0, A1, k1, A2, k2, A3, k3, rfl, rfl, rfl, rfl⟩ := h.forms
  obtain ⟨D0, l0, D1, l1, D2, l2, D3, l3, rfl, rfl, rfl, rfl⟩ := h'.forms
  clear b1 b2 hB hsz h h' hs
  go_enter Tryz.func31, Tryz.ntmps31
  go_upto_region 1 with fail
  generalize (w.alloc (.cells #[.int .i64 c.txg, .slice A0 c.sets.length k0, .slice A1 c.ddt.length k1, .slice A2 c.parts.length k2, .bool c.dirty, .slice A3 c.safe.length k3, .int .i64 c.logn] 44)).alloc (.cells #[.int .i64 c.txg, .slice D0 c.sets.length l0, .slice D1 c.ddt.length l1, .slice D2 c.parts.length l2, .bool c.dirty, .slice D3 c.safe.length l3, .int .i64 c.logn] 44) = W at X1 X2 B0 ⊢
  have n0 := X1.out.cell 0 rfl
  have m0 := X2.out.cell 0 rfl
  have n1 := X1.out.cell 1 rfl
  have m1 := X2.out.cell 1 rfl
  go_wp2_with fail
  refine (eqCoreSetS_same _ _ c.sets _ (HR.out.s.below B0.out HR.out.ls) (HQ.out.s.below B0.out HQ.out.ls) (fun b e => Nat.lt_of_lt_of_le (HR.out.ls b e) B0.out.size) (fun b e => Nat.lt_of_lt_of_le (HQ.out.ls b e) B0.out.size) HS.out.s).mono ?_
  rintro e wc1 ⟨rfl, hb⟩
  have Y1 := Lib.hid (X1.out.below hb X1.out.lt)
  have Y2 := Lib.hid (X2.out.below hb X2.out.lt)
  have B1 := Lib.hid (B0.out.trans (hb.mono B0.out.size))
  clear hb X1 X2 B0 n0 m0 n1 m1
  have X1 := Y1
  have X2 := Y2
  have B0 := B1
  clear Y1 Y2 B1
  have n2 := X1.out.cell 2 rfl
  have m2 := X2.out.cell 2 rfl
  go_wp2_with fail
  refine (eqDdtEntryS_same _ _ c.ddt _ (HR.out.d.below B0.out HR.out.ld) (HQ.out.d.below B0.out HQ.out.ld) (fun b e => Nat.lt_of_lt_of_le (HR.out.ld b e) B0.out.size) (fun b e => Nat.lt_of_lt_of_le (HQ.out.ld b e) B0.out.size) HS.out.d).mono ?_
  rintro e wc2 ⟨rfl, hb⟩
  have Y1 := Lib.hid (X1.out.below hb X1.out.lt)
  have Y2 := Lib.hid (X2.out.below hb X2.out.lt)
  have B1 := Lib.hid (B0.out.trans (hb.mono B0.out.size))
  clear hb X1 X2 B0 n2 m2
  have X1 := Y1
  have X2 := Y2
  have B0 := B1
  clear Y1 Y2 B1
  have n3 := X1.out.cell 3 rfl
  have m3 := X2.out.cell 3 rfl
  go_wp2_with fail
  refine (eqPtrS_same _ _ c.parts _ (HR.out.p.below B0.out HR.out.lp) (HQ.out.p.below B0.out HQ.out.lp) (fun b e => Nat.lt_of_lt_of_le (HR.out.lp b e) B0.out.size) (fun b e => Nat.lt_of_lt_of_le (HQ.out.lp b e) B0.out.size) HS.out.p).mono ?_
  rintro e wc3 ⟨rfl, hb⟩
  have Y1 := Lib.hid (X1.out.below hb X1.out.lt)
  have Y2 := Lib.hid (X2.out.below hb X2.out.lt)
  have B1 := Lib.hid (B0.out.trans (hb.mono B0.out.size))
  clear hb X1 X2 B0 n3 m3
  have X1 := Y1
  have X2 := Y2
  have B0 := B1
  clear Y1 Y2 B1
  have n4 := X1.out.cell 4 rfl
  have m4 := X2.out.cell 4 rfl
  have n5 := X1.out.cell 5 rfl
  have m5 := X2.out.cell 5 rfl
  go_wp2_with fail
  refine (eqIntS_b _ _ c.safe _ (HR.out.i.below B0.out HR.out.li) (HQ.out.i.below B0.out HQ.out.li)  HS.out.i).mono ?_
  rintro e wc4 ⟨rfl, hb⟩
  have Y1 := Lib.hid (X1.out.below hb X1.out.lt)
  have Y2 := Lib.hid (X2.out.below hb X2.out.lt)
  have B1 := Lib.hid (B0.out.trans (hb.mono B0.out.size))
  clear hb X1 X2 B0 n4 m4 n5 m5
  have X1 := Y1
  have X2 := Y2
  have B0 := B1
  clear Y1 Y2 B1
  have n6 := X1.out.cell 6 rfl
  have m6 := X2.out.cell 6 rfl
  go_wp2_with fail
  go_ret
  exact ⟨rfl, B0.out⟩

theorem cszs_le {ls : List CSetM} {x : CSetM} (h : x ∈ ls) : csz x ≤ cszs ls := by
  induction ls with
  | nil => cases h
  | cons a ss ih =>
    rcases List.mem_cons.1 h with rfl | h
    · simp [cszs]
    · have := ih h; simp [cszs] at this ⊢; omega

set_option maxHeartbeats 2000000 in
theorem szCore_any (vs vd vp vi : Value) (c : CoreM) (left : Int) (w : World) (h : CoreR w vs vd vp vi c) (hz : ∀ x ∈ c.sets, x.name.size ≤ maxLen ∧ x.frm.size ≤ maxLen) (h0 : 0 ≤ left) (h1 : left ≤ 1048576) :
    Calls Tryz.prog 24 #[cv c vs vd vp vi, .int .i64 left] w fun e w' => (∃ r : Int, e = .returned (.int .i64 r) ∧ (r = -1 ∨ 0 ≤ r ∧ r ≤ left ∧ CoreShort c)) ∧ Below w.heap.size w w' := by
  obtain ⟨b1, hsz, hB⟩ := box1 w #[.int .i64 c.txg, vs, vd, vp, .bool c.dirty, vi, .int .i64 c.logn] 32
  have X1 := Lib.hid b1
  have B0 := Lib.hid hB
  have HR := Lib.hid h
  have HZ := Lib.hid hz
  have H0 := Lib.hid h0
  have H1 := Lib.hid h1
  obtain ⟨A0, k0, A1, k1, A2, k2, A3, k3, rfl, rfl, rfl, rfl⟩ := h.forms
  clear b1 hB hsz h hz h0 h1
  go_enter Tryz.func24, Tryz.ntmps24
  go_upto_region 1 with fail
  generalize w.alloc (.cells #[.int .i64 c.txg, .slice A0 c.sets.length k0, .slice A1 c.ddt.length k1, .slice A2 c.parts.length k2, .bool c.dirty, .slice A3 c.safe.length k3, .int .i64 c.logn] 32) = W at X1 B0 ⊢
  have n1 := X1.out.cell 1 rfl
  go_wp2_with fail
  refine (szCoreSetS_any _ c.sets left _ (HR.out.s.below B0.out HR.out.ls) (fun b e => Nat.lt_of_lt_of_le (HR.out.ls b e) B0.out.size) HZ.out H0.out H1.out).mono ?_
  rintro e wc1 ⟨⟨r, rfl, hr⟩, hb⟩
  have Y1 := Lib.hid (X1.out.below hb X1.out.lt)
  have B1 := Lib.hid (B0.out.trans (hb.mono B0.out.size))
  clear hb X1 B0 n1
  have X1 := Y1
  have B0 := B1
  clear Y1 B1
  rcases hr with rfl | ⟨hr0, hr1⟩
  · go_wp2
    go_ret
    exact ⟨⟨-1, rfl, Or.inl rfl⟩, B0.out⟩
  have R0 := Lib.hid hr0
  have R1 := Lib.hid hr1
  have hd : decide (r < 0) = false := decide_eq_false (by omega)
  clear hr0 hr1
  have n2 := X1.out.cell 2 rfl
  go_wp2_with fail
  refine (szDdtEntryS_any _ _ _ r _ (HR.out.d.below B0.out HR.out.ld) (by have := R0.out; have := R1.out; have := H1.out; omega) (by have := R0.out; have := R1.out; have := H1.out; omega)).mono ?_
  rintro e wc2 ⟨rfl, hb⟩
  have Y1 := Lib.hid (X1.out.below hb X1.out.lt)
  have B1 := Lib.hid (B0.out.trans (hb.mono B0.out.size))
  clear hb X1 B0 n2 hd
  have X1 := Y1
  have B0 := B1
  clear Y1 B1
  by_cases hl : r < (c.ddt.length : Nat)
  · rw [if_pos hl]
    clear hl
    go_wp2
    go_ret
    exact ⟨⟨-1, rfl, Or.inl rfl⟩, B0.out⟩
  rw [if_neg hl]
  obtain ⟨r2, E2⟩ : ∃ r2 : Int, Hid (r2 = r - (c.ddt.length : Nat)) := ⟨_, Lib.hid rfl⟩
  rw [← E2.out]
  have hd : decide (r2 < 0) = false := decide_eq_false (by have := E2.out; omega)
  have L2 := Lib.hid hl
  clear hl
  have n3 := X1.out.cell 3 rfl
  go_wp2_with fail
  refine (szPtrS_any _ _ _ r2 _ (HR.out.p.below B0.out HR.out.lp) (by have := R0.out; have := R1.out; have := H1.out; have := E2.out; have := L2.out; omega) (by have := R0.out; have := R1.out; have := H1.out; have := E2.out; have := L2.out; omega)).mono ?_
  rintro e wc3 ⟨rfl, hb⟩
  have Y1 := Lib.hid (X1.out.below hb X1.out.lt)
  have B1 := Lib.hid (B0.out.trans (hb.mono B0.out.size))
  clear hb X1 B0 n3 hd
  have X1 := Y1
  have B0 := B1
  clear Y1 B1
  by_cases hl : r2 < (c.parts.length : Nat)
  · rw [if_pos hl]
    clear hl
    go_wp2
    go_ret
    exact ⟨⟨-1, rfl, Or.inl rfl⟩, B0.out⟩
  rw [if_neg hl]
  obtain ⟨r3, E3⟩ : ∃ r3 : Int, Hid (r3 = r2 - (c.parts.length : Nat)) := ⟨_, Lib.hid rfl⟩
  rw [← E3.out]
  have hd : decide (r3 < 0) = false := decide_eq_false (by have := E3.out; omega)
  have L3 := Lib.hid hl
  clear hl
  have n5 := X1.out.cell 5 rfl
  go_wp2_with fail
  refine (szIntS_any _ _ _ r3 _ (HR.out.i.below B0.out HR.out.li) (by have := R0.out; have := R1.out; have := H1.out; have := E2.out; have := L2.out; have := E3.out; have := L3.out; omega) (by have := R0.out; have := R1.out; have := H1.out; have := E2.out; have := L2.out; have := E3.out; have := L3.out; omega)).mono ?_
  rintro e wc4 ⟨rfl, hb⟩
  have Y1 := Lib.hid (X1.out.below hb X1.out.lt)
  have B1 := Lib.hid (B0.out.trans (hb.mono B0.out.size))
  clear hb X1 B0 n5 hd
  have X1 := Y1
  have B0 := B1
  clear Y1 B1
  by_cases hl : r3 < (c.safe.length : Nat)
  · rw [if_pos hl]
    clear hl
    go_wp2
    go_ret
    exact ⟨⟨-1, rfl, Or.inl rfl⟩, B0.out⟩
  rw [if_neg hl]
  obtain ⟨r4, E4⟩ : ∃ r4 : Int, Hid (r4 = r3 - (c.safe.length : Nat)) := ⟨_, Lib.hid rfl⟩
  rw [← E4.out]
  have hd : decide (r4 < 0) = false := decide_eq_false (by have := E4.out; omega)
  have L4 := Lib.hid hl
  clear hl
  go_wp2
  go_ret
  have := R0.out
  have := R1.out
  have := H1.out
  have := E2.out
  have := E3.out
  have := E4.out
  have := L2.out
  have := L3.out
  have := L4.out
  refine ⟨⟨r4, rfl, Or.inr ⟨by omega, by omega, by omega, by omega, by omega, by omega, fun x hx => ?_⟩⟩, B0.out⟩
  have h1 := cszs_le hx
  unfold csz at h1
  omega
end Go.Proofs.YtobjgdnmlibofaaGreat
