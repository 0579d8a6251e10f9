/-
  impl's CoreSame.
-/
import Derived.Test.YtobjgdnmlibofaaCoreQ
set_option maxRecDepth 100000
namespace Go.Proofs.Ytobjgdnmlibofaa
open Go.ChangeShapes Go.WideShapes Go.ChangeAt Go.RowKit Go.Proofs.Palim

theorem core_eq {c d : CoreM} : c = d ↔ c.txg = d.txg ∧ c.sets = d.sets ∧ c.ddt = d.ddt ∧ c.parts = d.parts ∧ c.dirty = d.dirty ∧ c.safe = d.safe ∧ c.logn = d.logn := by cases c; cases d; simp
noncomputable instance : DecidableEq CoreM := fun _ _ => Classical.propDecidable _

set_option maxHeartbeats 2000000 in
theorem implSame_is (vs vd vp vi us ud up ui : Value) (c d : CoreM) (w : World) (h : CoreR w vs vd vp vi c) (k : CoreR w us ud up ui d) (hs : CoreShort c) (ks : CoreShort d) :
    Calls Try.prog 16 #[cv c vs vd vp vi, cv d us ud up ui] w fun e w' => e = .returned (.bool (decide (c = d))) ∧ Below w.heap.size w w' := by
  have hnot : ∀ (x : Bool) (w : World), (Op.unary .not (.bool x)).run Try.prog w = .ok (.bool (!x)) w := fun _ _ => rfl
  obtain ⟨ok, HOK⟩ : ∃ ok, Hid (decide (c = d) = ok) := ⟨_, Lib.hid rfl⟩
  rw [HOK.out]
  obtain ⟨txg, sets, ddt, parts, dirty, safe, logn⟩ := c
  obtain ⟨txg', sets', ddt', parts', dirty', safe', logn'⟩ := d
  have HS := Lib.hid hs
  have HT := Lib.hid ks
  obtain ⟨A0, k0, A1, k1, A2, k2, A3, k3, e0, e1, e2, e3⟩ := h.forms
  obtain ⟨D0, l0, D1, l1, D2, l2, D3, l3, f0, f1, f2, f3⟩ := k.forms
  obtain ⟨hS, hD, hP, hI, gS, gD, gP, gI⟩ := h
  obtain ⟨qS, qD, qP, qI, jS, jD, jP, jI⟩ := k
  dsimp only at hS hD hP hI qS qD qP qI e0 e1 e2 e3 f0 f1 f2 f3
  clear hs ks
  subst e0 e1 e2 e3 f0 f1 f2 f3
  obtain ⟨b1, b2, hsz, hB⟩ := box2 w #[.int .i64 txg, .slice A0 sets.length k0, .slice A1 ddt.length k1, .slice A2 parts.length k2, .bool dirty, .slice A3 safe.length k3, .int .i64 logn] #[.int .i64 txg', .slice D0 sets'.length l0, .slice D1 ddt'.length l1, .slice D2 parts'.length l2, .bool dirty', .slice D3 safe'.length l3, .int .i64 logn'] 44 44
  have X1 := Lib.hid b1
  have X2 := Lib.hid b2
  have B0 := Lib.hid hB
  have RS := Lib.hid hS
  have RD := Lib.hid hD
  have RP := Lib.hid hP
  have RI := Lib.hid hI
  have GS := Lib.hid gS
  have GD := Lib.hid gD
  have GP := Lib.hid gP
  have GI := Lib.hid gI
  have QS := Lib.hid qS
  have QD := Lib.hid qD
  have QP := Lib.hid qP
  have QI := Lib.hid qI
  have JS := Lib.hid jS
  have JD := Lib.hid jD
  have JP := Lib.hid jP
  have JI := Lib.hid jI
  clear b1 b2 hB hsz hS hD hP hI qS qD qP qI gS gD gP gI jS jD jP jI
  go_enter Try.func16, Try.ntmps16
  go_upto_region 1 with fail
  generalize (w.alloc (.cells #[.int .i64 txg, .slice A0 sets.length k0, .slice A1 ddt.length k1, .slice A2 parts.length k2, .bool dirty, .slice A3 safe.length k3, .int .i64 logn] 44)).alloc (.cells #[.int .i64 txg', .slice D0 sets'.length l0, .slice D1 ddt'.length l1, .slice D2 parts'.length l2, .bool dirty', .slice D3 safe'.length l3, .int .i64 logn'] 44) = W at X1 X2 B0 ⊢
  have n0 := X1.out.cell 0 rfl
  have m0 := X2.out.cell 0 rfl
  have n1 := X1.out.cell 1 rfl
  have m1 := X2.out.cell 1 rfl
  by_cases h_txg : txg = txg'
  case neg =>
    have e_txg : (txg == txg') = false := by simp [h_txg]
    have HX := Lib.hid h_txg
    go_wp2
    go_ret
    exact ⟨ret_boolB ((decide_eq_false (fun e => HX.out ((core_eq.1 e).1))).symm.trans HOK.out), B0.out⟩
  subst h_txg
  go_wp2_with fail
  refine (equalCSet_any _ _ sets sets' _ (RS.out.below B0.out GS.out) (QS.out.below B0.out JS.out) HS.out.s HT.out.s).mono ?_
  rintro e wc1 ⟨rfl, q1, rfl⟩
  have hb := below_drewN (Below.refl W.heap.size W) q1
  have Y1 := Lib.hid (X1.out.below hb X1.out.lt)
  have Y2 := Lib.hid (X2.out.below hb X2.out.lt)
  have B1 := Lib.hid (B0.out.trans (hb.mono B0.out.size))
  clear hb X1 X2 B0 n0 m0 n1 m1
  generalize W.drewN q1 = wc1 at Y1 Y2 B1 ⊢
  have X1 := Y1
  have X2 := Y2
  have B0 := B1
  clear Y1 Y2 B1
  by_cases h_sets : sets = sets'
  case neg =>
    rw [decide_eq_false h_sets]
    have HX := Lib.hid h_sets
    clear h_sets
    go_wp2
    go_ret
    exact ⟨ret_boolB ((decide_eq_false (fun e => HX.out ((core_eq.1 e).2.1))).symm.trans HOK.out), B0.out⟩
  rw [decide_eq_true h_sets]
  have E_sets := Lib.hid h_sets
  clear h_sets
  have n2 := X1.out.cell 2 rfl
  have m2 := X2.out.cell 2 rfl
  go_wp2_with fail
  refine (equalEn_any _ _ ddt ddt' _ (RD.out.below B0.out GD.out) (QD.out.below B0.out JD.out) HS.out.d HT.out.d).mono ?_
  rintro e wc2 ⟨rfl, q2, rfl⟩
  have hb := below_drewN (Below.refl wc1.heap.size wc1) q2
  have Y1 := Lib.hid (X1.out.below hb X1.out.lt)
  have Y2 := Lib.hid (X2.out.below hb X2.out.lt)
  have B1 := Lib.hid (B0.out.trans (hb.mono B0.out.size))
  clear hb X1 X2 B0 n2 m2
  generalize wc1.drewN q2 = wc2 at Y1 Y2 B1 ⊢
  have X1 := Y1
  have X2 := Y2
  have B0 := B1
  clear Y1 Y2 B1
  by_cases h_ddt : ddt = ddt'
  case neg =>
    rw [decide_eq_false h_ddt]
    have HX := Lib.hid h_ddt
    clear h_ddt
    go_wp2
    go_ret
    exact ⟨ret_boolB ((decide_eq_false (fun e => HX.out ((core_eq.1 e).2.2.1))).symm.trans HOK.out), B0.out⟩
  rw [decide_eq_true h_ddt]
  have E_ddt := Lib.hid h_ddt
  clear h_ddt
  have n3 := X1.out.cell 3 rfl
  have m3 := X2.out.cell 3 rfl
  go_wp2_with fail
  refine (equalPt_any _ _ parts parts' _ (RP.out.below B0.out GP.out) (QP.out.below B0.out JP.out) HS.out.p HT.out.p).mono ?_
  rintro e wc3 ⟨rfl, q3, rfl⟩
  have hb := below_drewN (Below.refl wc2.heap.size wc2) q3
  have Y1 := Lib.hid (X1.out.below hb X1.out.lt)
  have Y2 := Lib.hid (X2.out.below hb X2.out.lt)
  have B1 := Lib.hid (B0.out.trans (hb.mono B0.out.size))
  clear hb X1 X2 B0 n3 m3
  generalize wc2.drewN q3 = wc3 at Y1 Y2 B1 ⊢
  have X1 := Y1
  have X2 := Y2
  have B0 := B1
  clear Y1 Y2 B1
  by_cases h_parts : parts = parts'
  case neg =>
    rw [decide_eq_false h_parts]
    have HX := Lib.hid h_parts
    clear h_parts
    go_wp2
    go_ret
    exact ⟨ret_boolB ((decide_eq_false (fun e => HX.out ((core_eq.1 e).2.2.2.1))).symm.trans HOK.out), B0.out⟩
  rw [decide_eq_true h_parts]
  have E_parts := Lib.hid h_parts
  clear h_parts
  have n4 := X1.out.cell 4 rfl
  have m4 := X2.out.cell 4 rfl
  have n5 := X1.out.cell 5 rfl
  have m5 := X2.out.cell 5 rfl
  by_cases h_dirty : dirty = dirty'
  case neg =>
    have e_dirty : (dirty == dirty') = false := by simp [h_dirty]
    have HX := Lib.hid h_dirty
    go_wp2
    go_ret
    exact ⟨ret_boolB ((decide_eq_false (fun e => HX.out ((core_eq.1 e).2.2.2.2.1))).symm.trans HOK.out), B0.out⟩
  subst h_dirty
  go_wp2_with fail
  refine (equalIn_any _ _ safe safe' _ (RI.out.below B0.out GI.out) (QI.out.below B0.out JI.out) HS.out.i HT.out.i).mono ?_
  rintro e wc4 ⟨rfl, q4, rfl⟩
  have hb := below_drewN (Below.refl wc3.heap.size wc3) q4
  have Y1 := Lib.hid (X1.out.below hb X1.out.lt)
  have Y2 := Lib.hid (X2.out.below hb X2.out.lt)
  have B1 := Lib.hid (B0.out.trans (hb.mono B0.out.size))
  clear hb X1 X2 B0 n4 m4 n5 m5
  generalize wc3.drewN q4 = wc4 at Y1 Y2 B1 ⊢
  have X1 := Y1
  have X2 := Y2
  have B0 := B1
  clear Y1 Y2 B1
  by_cases h_safe : safe = safe'
  case neg =>
    rw [decide_eq_false h_safe]
    have HX := Lib.hid h_safe
    clear h_safe
    go_wp2
    go_ret
    exact ⟨ret_boolB ((decide_eq_false (fun e => HX.out ((core_eq.1 e).2.2.2.2.2.1))).symm.trans HOK.out), B0.out⟩
  rw [decide_eq_true h_safe]
  have E_safe := Lib.hid h_safe
  clear h_safe
  have n6 := X1.out.cell 6 rfl
  have m6 := X2.out.cell 6 rfl
  by_cases h_logn : logn = logn'
  case neg =>
    have e_logn : (logn == logn') = false := by simp [h_logn]
    have HX := Lib.hid h_logn
    go_wp2
    go_ret
    exact ⟨ret_boolB ((decide_eq_false (fun e => HX.out ((core_eq.1 e).2.2.2.2.2.2))).symm.trans HOK.out), B0.out⟩
  subst h_logn
  go_wp2
  go_ret
  exact ⟨ret_boolB (HOK.out.symm.trans (decide_eq_true (core_eq.2 ⟨rfl, E_sets.out, E_ddt.out, E_parts.out, rfl, E_safe.out, rfl⟩))).symm, B0.out⟩
end Go.Proofs.Ytobjgdnmlibofaa
