/-
  A set of the core by itself: impl.coreSetOk.
-/
import Derived.Test.YtobjgdnmlibofaaGreatCoreD
import Derived.Test.YtobjgdnmlibofaaGreatSpecRoots
set_option maxRecDepth 100000
namespace Go.Proofs.YtobjgdnmlibofaaGreat
open Go.ChangeShapes Go.WideShapes Go.ChangeAt Go.RowKit Go.Proofs.Palim

set_option maxHeartbeats 4000000 in
theorem implSet_any (x : CSetM) (w : World) (hz : x.name.size ≤ 1048576 ∧ x.frm.size ≤ 1048576) :
    Calls Tryz.prog 132 #[.agg (cc x).toArray] w fun e w' => e = .returned (.bool (decide (SetOkC x))) ∧ Below w.heap.size w w' := by
  have hnot : ∀ (x : Bool) (w : World), (Op.unary .not (.bool x)).run Tryz.prog w = .ok (.bool (!x)) w := fun _ _ => rfl
  obtain ⟨ok, HOK⟩ : ∃ ok, Hid (decide (SetOkC x) = ok) := ⟨_, Lib.hid rfl⟩
  rw [HOK.out]
  have hzn : x.name.size ≤ maxLen := by unfold maxLen; have := hz.1; omega
  have hzf : x.frm.size ≤ maxLen := by unfold maxLen; have := hz.2; omega
  have HZN := Lib.hid hzn
  have HZF := Lib.hid hzf
  have X0 := Lib.hid (show Box _ w.heap.size (cc x) from box_new w (cc x).toArray 89)
  have B0 := Lib.hid (Below.new1 (w := w) (.cells (cc x).toArray 89))
  clear hz hzn hzf
  have HBAD := Lib.hid (show ¬ SetOkC x → false = ok from fun h => HOK.out ▸ (decide_eq_false h).symm)
  have H8 := Lib.hid x.h8
  go_enter Tryz.func132, Tryz.ntmps132
  go_upto_region 1 with fail
  obtain ⟨W, HWE⟩ : ∃ W, w.alloc (.cells (cc x).toArray 89) = W := ⟨_, rfl⟩
  rw [HWE] at X0 B0 ⊢
  clear HWE
  obtain ⟨n0, n1, n2, -, -, -, -⟩ := ccBox (x := x) X0.out
  go_wp2_with fail
  refine (ImplBookName_any x.name _ HZN.out).mono ?_
  rintro e W ⟨rfl, rfl⟩
  have hb := Below.refl W.heap.size W
  have Y1 := Lib.hid (X0.out.below hb X0.out.lt)
  have B1 := Lib.hid (B0.out.trans (hb.mono B0.out.size))
  clear hb X0 B0 n0 n1 n2
  by_cases hnm : NameOk x.name
  case neg =>
    rw [decide_eq_false hnm]
    have HF := Lib.hid (HBAD.out (fun c => hnm c.1))
    clear hnm
    go_wp2
    go_ret
    exact ⟨ret_boolB HF.out, B1.out⟩
  case pos =>
  rw [decide_eq_true hnm]
  have HNM := Lib.hid hnm
  clear hnm
  obtain ⟨-, n1, n2, -, -, -, -⟩ := ccBox Y1.out
  by_cases hf0 : x.frm.size = 0
  case pos =>
    have hq := eqEmpty hf0
    have HF0 := Lib.hid hf0
    clear hf0
    obtain ⟨-, n1, -, n4, n5, n6, -⟩ := ccBox Y1.out
    by_cases hkd : 1 ≤ x.kind ∧ x.kind ≤ 2
    case neg =>
      have HF := Lib.hid (HBAD.out (fun c => hkd c.2.2.1))
      have hk2 : x.kind < 1 ∨ (¬ x.kind < 1 ∧ x.kind > 2) := by omega
      have hk3 : (x.kind != 1) = true := by simp; omega
      have hk4 : (x.kind != 2) = true := by simp; omega
      clear hkd
      go_wp2
      go_ret
      exact ⟨ret_boolB HF.out, B1.out⟩
    case pos =>
    have HKD := Lib.hid hkd
    have hk3 : ((x.kind != 1) = false ∧ True) ∨ ((x.kind != 1) = true ∧ (x.kind != 2) = false) := by
      rcases (show x.kind = 1 ∨ x.kind = 2 by omega) with h | h
      · exact Or.inl ⟨by simp [h], trivial⟩
      · exact Or.inr ⟨by simp [h], by simp [h]⟩
    clear hkd n4 n5 n6
    have HFIN := Lib.hid (show (∀ (j : Nat) (h : j < x.map.length), j < 8 → PtrOkM x.map[j]) → decide (PtrOkM x.home) = ok from fun hg => HOK.out ▸ (by
      have hm : ∀ p ∈ x.map, PtrOkM p := fun p hp => by
        obtain ⟨i, hi, rfl⟩ := List.mem_iff_getElem.1 hp
        exact hg i hi (by have := H8.out; omega)
      by_cases hho : PtrOkM x.home
      · rw [decide_eq_true hho]; exact (decide_eq_true (show SetOkC x from ⟨HNM.out, Or.inl HF0.out, HKD.out, hho, hm⟩)).symm
      · rw [decide_eq_false hho]; exact (decide_eq_false (fun c : SetOkC x => hho c.2.2.2.1)).symm))
    rcases hk3 with ⟨hk3, -⟩ | ⟨hk3, hk4⟩
    all_goals
      go_wp2_with (refine wpList_load_cs rfl _ rfl aggMap rfl (pcs x.map) (cmap_len x) (Box.part (p := ch x) (m := pcs x.map) (q := pc x.home ++ [.bool x.dirty]) Y1.out 3 rfl) ?_)
      clear hk3
      go_loopw [4, 32] (fun _ i wr => ∃ (k : Nat), k ≤ 8 ∧ i = .int .i64 k ∧ Hid (Below w.heap.size w wr) ∧ Hid (Box wr w.heap.size (cc x)) ∧ Hid (∀ (j : Nat) (h : j < x.map.length), j < k → PtrOkM x.map[j])) (fun _ i _ => 8 - (RowKit.intOf i).toNat)
      case atStart => exact ⟨0, Nat.zero_le _, rfl, B1, Y1, Lib.hid (fun j _ h => absurd h (Nat.not_lt_zero _))⟩
      case round =>
        obtain ⟨k, hk, rfl, HB, HX, HG⟩ := hrel
        by_cases hlt : k < 8
        case pos =>
          have hl0 : k < x.map.length := by rw [H8.out]; exact hlt
          have hk1 : (k : Int) < 8 := by omega
          have HBS := Lib.hid (show ¬ PtrOkM x.map[k] → false = ok from fun h => HBAD.out (fun c => h (c.2.2.2.2 _ (List.getElem_mem hl0))))
          have HGS := Lib.hid (show PtrOkM x.map[k] → ∀ (j : Nat) (h : j < x.map.length), j < k + 1 → PtrOkM x.map[j] from fun hg j hj hjk => by
            by_cases e : j = k
            · subst e; exact hg
            · exact HG.out j hj (by omega))
          have hix := idxMapD x.map H8.out k hl0
          generalize x.map[k] = y at hix HBS HGS
          clear HG hl0
          have hn := Below.new1 (w := wr) (.cells #[.int .i64 y.at_, .int .i64 y.sum, .int .i64 y.birth] 86)
          have HX1 := Lib.hid (HX.out.below hn HX.out.lt)
          have HB1 := Lib.hid (HB.out.trans (hn.mono HB.out.size))
          clear hn HX HB
          by_cases hg : PtrOkM y
          case neg =>
            have HF := Lib.hid (HBS.out hg)
            have hor := decide_eq_false hg
            clear hg HBS HGS
            go_wp2_with fail
            refine (implPtrOk_is y _ _ hor).mono ?_
            rintro e w4 ⟨rfl, hb⟩
            have HB2 := Lib.hid (HB1.out.trans (hb.mono HB1.out.size))
            clear hb
            go_wp2
            go_ret
            exact ⟨ret_boolB HF.out, HB2.out⟩
          case pos =>
            have HG1 := Lib.hid (HGS.out hg)
            have hor := decide_eq_true hg
            clear hg HBS HGS
            go_wp2_with fail
            refine (implPtrOk_is y _ _ hor).mono ?_
            rintro e w4 ⟨rfl, hb⟩
            have HB2 := Lib.hid (HB1.out.trans (hb.mono HB1.out.size))
            have HX2 := Lib.hid (HX1.out.below hb HX1.out.lt)
            clear hb
            go_wp2
            go_roundw
            case rel => exact ⟨k + 1, by omega, by go_num, HB2, HX2, HG1⟩
            case measure => simp [RowKit.intOf]; omega
        case neg =>
          have HF := Lib.hid (HFIN.out (fun j hj _ => HG.out j hj (by have := H8.out; omega)))
          have hkk : ¬ (k : Int) < 8 := by omega
          obtain ⟨-, -, -, n4, n5, n6, -⟩ := ccBox HX.out
          go_wp2_with fail
          refine (implPtrOk_is x.home _ _ rfl).mono ?_
          rintro e w4 ⟨rfl, hb⟩
          have HB2 := Lib.hid (HB.out.trans (hb.mono HB.out.size))
          clear hb
          go_wp2
          go_ret
          exact ⟨ret_boolB HF.out, HB2.out⟩
  case neg =>
    have hq := neEmpty hf0
    have HF0 := Lib.hid hf0
    clear hf0
    go_wp2_with fail
    refine (ImplBookName_any x.frm _ HZF.out).mono ?_
    rintro e W ⟨rfl, rfl⟩
    have hb := Below.refl W.heap.size W
    have Y2 := Lib.hid (Y1.out.below hb Y1.out.lt)
    have B2 := Lib.hid (B1.out.trans (hb.mono B1.out.size))
    clear hb Y1 B1 n1 n2
    by_cases hfm : NameOk x.frm
    case neg =>
      rw [decide_eq_false hfm]
      have HF := Lib.hid (HBAD.out (fun c => by rcases c.2.1 with h | h; exact HF0.out h; exact hfm h))
      clear hfm
      go_wp2
      go_ret
      exact ⟨ret_boolB HF.out, B2.out⟩
    case pos =>
    rw [decide_eq_true hfm]
    have HFM := Lib.hid hfm
    clear hfm
    obtain ⟨-, n1, -, n4, n5, n6, -⟩ := ccBox Y2.out
    by_cases hkd : 1 ≤ x.kind ∧ x.kind ≤ 2
    case neg =>
      have HF := Lib.hid (HBAD.out (fun c => hkd c.2.2.1))
      have hk2 : x.kind < 1 ∨ (¬ x.kind < 1 ∧ x.kind > 2) := by omega
      have hk3 : (x.kind != 1) = true := by simp; omega
      have hk4 : (x.kind != 2) = true := by simp; omega
      clear hkd
      go_wp2
      go_ret
      exact ⟨ret_boolB HF.out, B2.out⟩
    case pos =>
    have HKD := Lib.hid hkd
    have hk3 : ((x.kind != 1) = false ∧ True) ∨ ((x.kind != 1) = true ∧ (x.kind != 2) = false) := by
      rcases (show x.kind = 1 ∨ x.kind = 2 by omega) with h | h
      · exact Or.inl ⟨by simp [h], trivial⟩
      · exact Or.inr ⟨by simp [h], by simp [h]⟩
    clear hkd n4 n5 n6
    have HFIN := Lib.hid (show (∀ (j : Nat) (h : j < x.map.length), j < 8 → PtrOkM x.map[j]) → decide (PtrOkM x.home) = ok from fun hg => HOK.out ▸ (by
      have hm : ∀ p ∈ x.map, PtrOkM p := fun p hp => by
        obtain ⟨i, hi, rfl⟩ := List.mem_iff_getElem.1 hp
        exact hg i hi (by have := H8.out; omega)
      by_cases hho : PtrOkM x.home
      · rw [decide_eq_true hho]; exact (decide_eq_true (show SetOkC x from ⟨HNM.out, Or.inr HFM.out, HKD.out, hho, hm⟩)).symm
      · rw [decide_eq_false hho]; exact (decide_eq_false (fun c : SetOkC x => hho c.2.2.2.1)).symm))
    rcases hk3 with ⟨hk3, -⟩ | ⟨hk3, hk4⟩
    all_goals
      go_wp2_with (refine wpList_load_cs rfl _ rfl aggMap rfl (pcs x.map) (cmap_len x) (Box.part (p := ch x) (m := pcs x.map) (q := pc x.home ++ [.bool x.dirty]) Y2.out 3 rfl) ?_)
      clear hk3
      go_loopw [4, 32] (fun _ i wr => ∃ (k : Nat), k ≤ 8 ∧ i = .int .i64 k ∧ Hid (Below w.heap.size w wr) ∧ Hid (Box wr w.heap.size (cc x)) ∧ Hid (∀ (j : Nat) (h : j < x.map.length), j < k → PtrOkM x.map[j])) (fun _ i _ => 8 - (RowKit.intOf i).toNat)
      case atStart => exact ⟨0, Nat.zero_le _, rfl, B2, Y2, Lib.hid (fun j _ h => absurd h (Nat.not_lt_zero _))⟩
      case round =>
        obtain ⟨k, hk, rfl, HB, HX, HG⟩ := hrel
        by_cases hlt : k < 8
        case pos =>
          have hl0 : k < x.map.length := by rw [H8.out]; exact hlt
          have hk1 : (k : Int) < 8 := by omega
          have HBS := Lib.hid (show ¬ PtrOkM x.map[k] → false = ok from fun h => HBAD.out (fun c => h (c.2.2.2.2 _ (List.getElem_mem hl0))))
          have HGS := Lib.hid (show PtrOkM x.map[k] → ∀ (j : Nat) (h : j < x.map.length), j < k + 1 → PtrOkM x.map[j] from fun hg j hj hjk => by
            by_cases e : j = k
            · subst e; exact hg
            · exact HG.out j hj (by omega))
          have hix := idxMapD x.map H8.out k hl0
          generalize x.map[k] = y at hix HBS HGS
          clear HG hl0
          have hn := Below.new1 (w := wr) (.cells #[.int .i64 y.at_, .int .i64 y.sum, .int .i64 y.birth] 86)
          have HX1 := Lib.hid (HX.out.below hn HX.out.lt)
          have HB1 := Lib.hid (HB.out.trans (hn.mono HB.out.size))
          clear hn HX HB
          by_cases hg : PtrOkM y
          case neg =>
            have HF := Lib.hid (HBS.out hg)
            have hor := decide_eq_false hg
            clear hg HBS HGS
            go_wp2_with fail
            refine (implPtrOk_is y _ _ hor).mono ?_
            rintro e w4 ⟨rfl, hb⟩
            have HB2 := Lib.hid (HB1.out.trans (hb.mono HB1.out.size))
            clear hb
            go_wp2
            go_ret
            exact ⟨ret_boolB HF.out, HB2.out⟩
          case pos =>
            have HG1 := Lib.hid (HGS.out hg)
            have hor := decide_eq_true hg
            clear hg HBS HGS
            go_wp2_with fail
            refine (implPtrOk_is y _ _ hor).mono ?_
            rintro e w4 ⟨rfl, hb⟩
            have HB2 := Lib.hid (HB1.out.trans (hb.mono HB1.out.size))
            have HX2 := Lib.hid (HX1.out.below hb HX1.out.lt)
            clear hb
            go_wp2
            go_roundw
            case rel => exact ⟨k + 1, by omega, by go_num, HB2, HX2, HG1⟩
            case measure => simp [RowKit.intOf]; omega
        case neg =>
          have HF := Lib.hid (HFIN.out (fun j hj _ => HG.out j hj (by have := H8.out; omega)))
          have hkk : ¬ (k : Int) < 8 := by omega
          obtain ⟨-, -, -, n4, n5, n6, -⟩ := ccBox HX.out
          go_wp2_with fail
          refine (implPtrOk_is x.home _ _ rfl).mono ?_
          rintro e w4 ⟨rfl, hb⟩
          have HB2 := Lib.hid (HB.out.trans (hb.mono HB.out.size))
          clear hb
          go_wp2
          go_ret
          exact ⟨ret_boolB HF.out, HB2.out⟩
theorem implSet_is (x : CSetM) (r : Bool) (w : World) (hz : x.name.size ≤ 1048576 ∧ x.frm.size ≤ 1048576) (hr : decide (SetOkC x) = r) :
    Calls Tryz.prog 132 #[.agg (cc x).toArray] w fun e w' => e = .returned (.bool r) ∧ Below w.heap.size w w' := hr ▸ implSet_any x w hz
end Go.Proofs.YtobjgdnmlibofaaGreat
