/-
  A set of the core by itself: spec.l6Set.
-/
import Derived.Test.YtobjgdnmlibofaaGreatCoreD
import Derived.Test.YtobjgdnmlibofaaGreatSpecRoots
set_option maxRecDepth 100000
namespace Go.Proofs.YtobjgdnmlibofaaGreat
open Go.ChangeShapes Go.WideShapes Go.ChangeAt Go.RowKit Go.Proofs.Palim

set_option maxHeartbeats 4000000 in
theorem specSet_any (x : CSetM) (w : World) (hz : x.name.size ≤ 1048576 ∧ x.frm.size ≤ 1048576) :
    Calls Tryz.prog 54 #[.agg (cc x).toArray] w fun e w' => e = .returned (.bool (decide (SetOkC x))) ∧ Below w.heap.size w w' := by
  have hnot : ∀ (x : Bool) (w : World), (Op.unary .not (.bool x)).run Tryz.prog w = .ok (.bool (!x)) w := fun _ _ => rfl
  obtain ⟨ok, HOK⟩ : ∃ ok, Hid (decide (SetOkC x) = ok) := ⟨_, Lib.hid rfl⟩
  rw [HOK.out]
  have hzn : x.name.size ≤ maxLen := by unfold maxLen; have := hz.1; omega
  have hzf : x.frm.size ≤ maxLen := by unfold maxLen; have := hz.2; omega
  have HZN := Lib.hid hzn
  have HZF := Lib.hid hzf
  have X0 := Lib.hid (show Box _ w.heap.size (cc x) from box_new w (cc x).toArray 89)
  have B0 := Lib.hid (Below.new1 (w := w) (.cells (cc x).toArray 89))
  clear hz hzn hzf
  have HBAD := Lib.hid (show ¬ SetOkC x → false = ok from fun h => HOK.out ▸ (decide_eq_false h).symm)
  have H8 := Lib.hid x.h8
  go_enter Tryz.func54, Tryz.ntmps54
  go_upto_region 1 with fail
  obtain ⟨W, HWE⟩ : ∃ W, w.alloc (.cells (cc x).toArray 89) = W := ⟨_, rfl⟩
  rw [HWE] at X0 B0 ⊢
  clear HWE
  obtain ⟨n0, n1, n2, -, -, -, -⟩ := ccBox (x := x) X0.out
  go_wp2_with fail
  refine (BookName_any x.name _ HZN.out).mono ?_
  rintro e W ⟨rfl, rfl⟩
  have hb := Below.refl W.heap.size W
  have Y1 := Lib.hid (X0.out.below hb X0.out.lt)
  have B1 := Lib.hid (B0.out.trans (hb.mono B0.out.size))
  clear hb X0 B0 n0 n1 n2
  by_cases hnm : NameOk x.name
  case neg =>
    rw [decide_eq_false hnm]
    have HF := Lib.hid (HBAD.out (fun c => hnm c.1))
    clear hnm
    go_wp2
    go_ret
    exact ⟨ret_boolB HF.out, B1.out⟩
  case pos =>
  rw [decide_eq_true hnm]
  have HNM := Lib.hid hnm
  clear hnm
  obtain ⟨-, n1, n2, -, -, -, -⟩ := ccBox Y1.out
  by_cases hf0 : x.frm.size = 0
  case pos =>
    have hq := eqEmpty hf0
    have HF0 := Lib.hid hf0
    clear hf0
    obtain ⟨-, n1, -, n4, n5, n6, -⟩ := ccBox Y1.out
    by_cases hkd : 1 ≤ x.kind ∧ x.kind ≤ 2
    case neg =>
      have HF := Lib.hid (HBAD.out (fun c => hkd c.2.2.1))
      have hk2 : x.kind < 1 ∨ (¬ x.kind < 1 ∧ x.kind > 2) := by omega
      clear hkd
      rcases hk2 with h1 | ⟨h1, h2⟩
      all_goals
        go_wp2
        go_ret
        exact ⟨ret_boolB HF.out, B1.out⟩
    case pos =>
    have HKD := Lib.hid hkd
    have hk3 : ¬ x.kind < 1 := by omega
    have hk4 : ¬ x.kind > 2 := by omega
    clear hkd
    go_wp2_with fail
    by_cases hho : PtrOkM x.home
    case neg =>
      have HF := Lib.hid (HBAD.out (fun c => hho c.2.2.2.1))
      have hor := decide_eq_false hho
      clear hho
      refine (specPtrOk_is x.home _ _ hor).mono ?_
      rintro e w3 ⟨rfl, hb⟩
      have B2 := Lib.hid (B1.out.trans (hb.mono B1.out.size))
      clear hb
      go_wp2
      go_ret
      exact ⟨ret_boolB HF.out, B2.out⟩
    case pos =>
    have HHO := Lib.hid hho
    have hor := decide_eq_true hho
    clear hho
    refine (specPtrOk_is x.home _ _ hor).mono ?_
    rintro e w3 ⟨rfl, hb⟩
    have Y2 := Lib.hid (Y1.out.below hb Y1.out.lt)
    have B2 := Lib.hid (B1.out.trans (hb.mono B1.out.size))
    clear hb Y1 B1 n1 n4 n5 n6 hor hk3 hk4
    have HFIN := Lib.hid (show (∀ (j : Nat) (h : j < x.map.length), j < 8 → PtrOkM x.map[j]) → true = ok from fun hg => HOK.out ▸ (decide_eq_true (show SetOkC x from ⟨HNM.out, Or.inl HF0.out, HKD.out, HHO.out, fun p hp => by
      obtain ⟨i, hi, rfl⟩ := List.mem_iff_getElem.1 hp
      exact hg i hi (by have := H8.out; omega)⟩)).symm)
    go_wp2
    go_loopw [3] (fun i wr => ∃ (k : Nat), k ≤ 8 ∧ i = .int .i64 k ∧ Hid (Below w.heap.size w wr) ∧ Hid (Box wr w.heap.size (cc x)) ∧ Hid (∀ (j : Nat) (h : j < x.map.length), j < k → PtrOkM x.map[j])) (fun i _ => 8 - (RowKit.intOf i).toNat)
    case atStart => exact ⟨0, Nat.zero_le _, rfl, B2, Y2, Lib.hid (fun j _ h => absurd h (Nat.not_lt_zero _))⟩
    case round =>
      obtain ⟨k, hk, rfl, HB, HX, HG⟩ := hrel
      by_cases hlt : k < 8
      case pos =>
        have hl0 : k < x.map.length := by rw [H8.out]; exact hlt
        have hk1 : (k : Int) < 8 := by omega
        have HBS := Lib.hid (show ¬ PtrOkM x.map[k] → false = ok from fun h => HBAD.out (fun c => h (c.2.2.2.2 _ (List.getElem_mem hl0))))
        have HGS := Lib.hid (show PtrOkM x.map[k] → ∀ (j : Nat) (h : j < x.map.length), j < k + 1 → PtrOkM x.map[j] from fun hg j hj hjk => by
          by_cases e : j = k
          · subst e; exact hg
          · exact HG.out j hj (by omega))
        have hpr : ∀ i, i < 3 → ∀ u, (pc x.map[k])[i]? = some u → wr.cell? ⟨w.heap.size, 3 + k * 3 + i, none⟩ = some u := fun i hi u hu => by
          have h2 := cc_map x (k * 3 + i) u (by rw [pcs_atD _ k hl0 i hi]; exact hu)
          have := HX.out.cell _ h2
          rwa [show 3 + k * 3 + i = 3 + (k * 3 + i) by omega]
        have g0 := hpr 0 (by omega) _ rfl
        have g1 := hpr 1 (by omega) _ rfl
        have g2 := hpr 2 (by omega) _ rfl
        rw [Nat.add_zero] at g0
        clear hpr
        generalize x.map[k] = y at g0 g1 g2 HBS HGS
        clear HG hl0
        by_cases hg : PtrOkM y
        case neg =>
          have HF := Lib.hid (HBS.out hg)
          have hor := decide_eq_false hg
          clear hg HBS HGS
          go_wp2_with fail
          refine (specPtrOk_is y _ _ hor).mono ?_
          rintro e w4 ⟨rfl, hb⟩
          have HB2 := Lib.hid (HB.out.trans (hb.mono HB.out.size))
          clear hb
          go_wp2
          go_ret
          exact ⟨ret_boolB HF.out, HB2.out⟩
        case pos =>
          have HG1 := Lib.hid (HGS.out hg)
          have hor := decide_eq_true hg
          clear hg HBS HGS
          go_wp2_with fail
          refine (specPtrOk_is y _ _ hor).mono ?_
          rintro e w4 ⟨rfl, hb⟩
          have HB2 := Lib.hid (HB.out.trans (hb.mono HB.out.size))
          have HX2 := Lib.hid (HX.out.below hb HX.out.lt)
          clear hb
          go_wp2
          go_roundw
          case rel => exact ⟨k + 1, by omega, by go_num, HB2, HX2, HG1⟩
          case measure => simp [RowKit.intOf]; omega
      case neg =>
        have HF := Lib.hid (HFIN.out (fun j hj _ => HG.out j hj (by have := H8.out; omega)))
        go_wp2
        go_ret
        exact ⟨ret_boolB HF.out, HB.out⟩
  case neg =>
    have hq := neEmpty hf0
    have HF0 := Lib.hid hf0
    clear hf0
    go_wp2_with fail
    refine (BookName_any x.frm _ HZF.out).mono ?_
    rintro e W ⟨rfl, rfl⟩
    have hb := Below.refl W.heap.size W
    have Y2 := Lib.hid (Y1.out.below hb Y1.out.lt)
    have B2 := Lib.hid (B1.out.trans (hb.mono B1.out.size))
    clear hb Y1 B1 n1 n2
    by_cases hfm : NameOk x.frm
    case neg =>
      rw [decide_eq_false hfm]
      have HF := Lib.hid (HBAD.out (fun c => by rcases c.2.1 with h | h; exact HF0.out h; exact hfm h))
      clear hfm
      go_wp2
      go_ret
      exact ⟨ret_boolB HF.out, B2.out⟩
    case pos =>
    rw [decide_eq_true hfm]
    have HFM := Lib.hid hfm
    clear hfm
    obtain ⟨-, n1, -, n4, n5, n6, -⟩ := ccBox Y2.out
    by_cases hkd : 1 ≤ x.kind ∧ x.kind ≤ 2
    case neg =>
      have HF := Lib.hid (HBAD.out (fun c => hkd c.2.2.1))
      have hk2 : x.kind < 1 ∨ (¬ x.kind < 1 ∧ x.kind > 2) := by omega
      clear hkd
      rcases hk2 with h1 | ⟨h1, h2⟩
      all_goals
        go_wp2
        go_ret
        exact ⟨ret_boolB HF.out, B2.out⟩
    case pos =>
    have HKD := Lib.hid hkd
    have hk3 : ¬ x.kind < 1 := by omega
    have hk4 : ¬ x.kind > 2 := by omega
    clear hkd
    go_wp2_with fail
    by_cases hho : PtrOkM x.home
    case neg =>
      have HF := Lib.hid (HBAD.out (fun c => hho c.2.2.2.1))
      have hor := decide_eq_false hho
      clear hho
      refine (specPtrOk_is x.home _ _ hor).mono ?_
      rintro e w3 ⟨rfl, hb⟩
      have B3 := Lib.hid (B2.out.trans (hb.mono B2.out.size))
      clear hb
      go_wp2
      go_ret
      exact ⟨ret_boolB HF.out, B3.out⟩
    case pos =>
    have HHO := Lib.hid hho
    have hor := decide_eq_true hho
    clear hho
    refine (specPtrOk_is x.home _ _ hor).mono ?_
    rintro e w3 ⟨rfl, hb⟩
    have Y3 := Lib.hid (Y2.out.below hb Y2.out.lt)
    have B3 := Lib.hid (B2.out.trans (hb.mono B2.out.size))
    clear hb Y2 B2 n1 n4 n5 n6 hor hk3 hk4
    have HFIN := Lib.hid (show (∀ (j : Nat) (h : j < x.map.length), j < 8 → PtrOkM x.map[j]) → true = ok from fun hg => HOK.out ▸ (decide_eq_true (show SetOkC x from ⟨HNM.out, Or.inr HFM.out, HKD.out, HHO.out, fun p hp => by
      obtain ⟨i, hi, rfl⟩ := List.mem_iff_getElem.1 hp
      exact hg i hi (by have := H8.out; omega)⟩)).symm)
    go_wp2
    go_loopw [3] (fun i wr => ∃ (k : Nat), k ≤ 8 ∧ i = .int .i64 k ∧ Hid (Below w.heap.size w wr) ∧ Hid (Box wr w.heap.size (cc x)) ∧ Hid (∀ (j : Nat) (h : j < x.map.length), j < k → PtrOkM x.map[j])) (fun i _ => 8 - (RowKit.intOf i).toNat)
    case atStart => exact ⟨0, Nat.zero_le _, rfl, B3, Y3, Lib.hid (fun j _ h => absurd h (Nat.not_lt_zero _))⟩
    case round =>
      obtain ⟨k, hk, rfl, HB, HX, HG⟩ := hrel
      by_cases hlt : k < 8
      case pos =>
        have hl0 : k < x.map.length := by rw [H8.out]; exact hlt
        have hk1 : (k : Int) < 8 := by omega
        have HBS := Lib.hid (show ¬ PtrOkM x.map[k] → false = ok from fun h => HBAD.out (fun c => h (c.2.2.2.2 _ (List.getElem_mem hl0))))
        have HGS := Lib.hid (show PtrOkM x.map[k] → ∀ (j : Nat) (h : j < x.map.length), j < k + 1 → PtrOkM x.map[j] from fun hg j hj hjk => by
          by_cases e : j = k
          · subst e; exact hg
          · exact HG.out j hj (by omega))
        have hpr : ∀ i, i < 3 → ∀ u, (pc x.map[k])[i]? = some u → wr.cell? ⟨w.heap.size, 3 + k * 3 + i, none⟩ = some u := fun i hi u hu => by
          have h2 := cc_map x (k * 3 + i) u (by rw [pcs_atD _ k hl0 i hi]; exact hu)
          have := HX.out.cell _ h2
          rwa [show 3 + k * 3 + i = 3 + (k * 3 + i) by omega]
        have g0 := hpr 0 (by omega) _ rfl
        have g1 := hpr 1 (by omega) _ rfl
        have g2 := hpr 2 (by omega) _ rfl
        rw [Nat.add_zero] at g0
        clear hpr
        generalize x.map[k] = y at g0 g1 g2 HBS HGS
        clear HG hl0
        by_cases hg : PtrOkM y
        case neg =>
          have HF := Lib.hid (HBS.out hg)
          have hor := decide_eq_false hg
          clear hg HBS HGS
          go_wp2_with fail
          refine (specPtrOk_is y _ _ hor).mono ?_
          rintro e w4 ⟨rfl, hb⟩
          have HB2 := Lib.hid (HB.out.trans (hb.mono HB.out.size))
          clear hb
          go_wp2
          go_ret
          exact ⟨ret_boolB HF.out, HB2.out⟩
        case pos =>
          have HG1 := Lib.hid (HGS.out hg)
          have hor := decide_eq_true hg
          clear hg HBS HGS
          go_wp2_with fail
          refine (specPtrOk_is y _ _ hor).mono ?_
          rintro e w4 ⟨rfl, hb⟩
          have HB2 := Lib.hid (HB.out.trans (hb.mono HB.out.size))
          have HX2 := Lib.hid (HX.out.below hb HX.out.lt)
          clear hb
          go_wp2
          go_roundw
          case rel => exact ⟨k + 1, by omega, by go_num, HB2, HX2, HG1⟩
          case measure => simp [RowKit.intOf]; omega
      case neg =>
        have HF := Lib.hid (HFIN.out (fun j hj _ => HG.out j hj (by have := H8.out; omega)))
        go_wp2
        go_ret
        exact ⟨ret_boolB HF.out, HB.out⟩
theorem specSet_is (x : CSetM) (r : Bool) (w : World) (hz : x.name.size ≤ 1048576 ∧ x.frm.size ≤ 1048576) (hr : decide (SetOkC x) = r) :
    Calls Tryz.prog 54 #[.agg (cc x).toArray] w fun e w' => e = .returned (.bool r) ∧ Below w.heap.size w w' := hr ▸ specSet_any x w hz
end Go.Proofs.YtobjgdnmlibofaaGreat
