/-
  impl: places, pointers that point, parts.
-/
import Derived.Test.YtobjgdnmlibofaaGreatCoreD
set_option maxRecDepth 100000
namespace Go.Proofs.YtobjgdnmlibofaaGreat
open Go.ChangeShapes Go.WideShapes Go.ChangeAt Go.RowKit Go.Proofs.Palim

set_option maxHeartbeats 2000000 in
theorem implSafe_any (v : Value) (ls : List Int) (w : World) (h : Sl w 1 v ls.length (ics ls)) (hv : Low w.heap.size v) :
    Calls Tryz.prog 113 #[v] w fun e w' => e = .returned (.bool (decide (PlacesM ls))) ∧ Below w.heap.size w w' := by
  obtain ⟨ok, HOK⟩ : ∃ ok, Hid (decide (PlacesM ls) = ok) := ⟨_, Lib.hid rfl⟩
  rw [HOK.out]
  obtain ⟨n, HL⟩ : ∃ n, Hid (ls.length = n) := ⟨_, Lib.hid rfl⟩
  rw [HL.out] at h
  have hnm := h.le
  unfold maxLen at hnm
  have hfin : ∀ k, GoodP ls k → n ≤ k → true = ok := fun k hk hkn => HOK.out ▸ (decide_eq_true (show PlacesM ls from fun j hj h' => hk j hj (by have := HL.out; omega))).symm
  have HFIN := Lib.hid hfin
  clear hfin
  by_cases hn0 : n = 0
  · subst hn0
    have HF := Lib.hid (HFIN.out 0 (fun j _ h => absurd h (Nat.not_lt_zero _)) (Nat.le_refl _))
    obtain ⟨_, A, c, rfl, _, _, _⟩ := h
    go_enter Tryz.func113, Tryz.ntmps113
    go_wp2
    go_loopw [3, 4, 7] (fun _ _ i wr => i = .int .i64 0 ∧ wr = w) (fun _ _ _ _ => 0)
    case atStart => exact ⟨rfl, rfl⟩
    case round =>
      obtain ⟨rfl, rfl⟩ := hrel
      go_wp2
      go_ret
      exact ⟨ret_boolB HF.out, Below.refl _ _⟩
  obtain ⟨b, off, c, rfl, hnc, hcm, hcell⟩ := h.form (by omega)
  have hbl : b < w.heap.size := hv b rfl
  have HC := Lib.hid hcell
  unfold maxLen at hcm
  clear hcell h hv
  go_enter Tryz.func113, Tryz.ntmps113
  go_wp2
  go_loopw [3, 4, 7] (fun _ _ i wr => ∃ (k : Nat), k ≤ n ∧ i = .int .i64 k ∧ wr = w ∧ Hid (GoodP ls k)) (fun _ _ i _ => n - (RowKit.intOf i).toNat)
  case atStart => exact ⟨0, Nat.zero_le _, rfl, rfl, Lib.hid (fun j _ h => absurd h (Nat.not_lt_zero _))⟩
  case round =>
    obtain ⟨k, hk, rfl, rfl, HG⟩ := hrel
    by_cases hlt : k < n
    case pos =>
      have hl0 : k < ls.length := by rw [HL.out]; exact hlt
      have g0 := HC.out k _ (ics_at ls k hl0)
      have hk1 : (k : Int) < (n : Int) := by omega
      have HBS := Lib.hid (show ¬ (13 ≤ ls[k] ∧ ls[k] < 120) → false = ok from fun h => HOK.out ▸ (decide_eq_false (fun c => h (c k hl0 hl0).1)).symm)
      have HGS := Lib.hid (fun h1 h2 => goodP_succ HG.out hl0 h1 h2)
      by_cases hk0 : k = 0
      case pos =>
        subst hk0
        rw [Nat.add_zero] at g0
        generalize ls[0] = y at g0 HBS HGS
        by_cases hr : 13 ≤ y ∧ y < 120
        case neg =>
          have HF := Lib.hid (HBS.out hr)
          have hr2 : y < 13 ∨ (¬ y < 13 ∧ y ≥ 120) := by omega
          clear hr HBS HGS
          rcases hr2 with h1 | ⟨h1, h2⟩
          all_goals
            go_wp2
            go_ret
            exact ⟨ret_boolB HF.out, Below.refl _ _⟩
        case pos =>
          have HG1 := Lib.hid (HGS.out hr (fun h => absurd h (Nat.lt_irrefl _)))
          obtain ⟨r1, r2⟩ := hr
          have r3 : ¬ y < 13 := by omega
          have r4 : ¬ y ≥ 120 := by omega
          clear HBS HGS
          go_wp2
          go_roundw
          case rel => exact ⟨0 + 1, by omega, by go_num, by first | rfl | trivial, HG1⟩
          case measure => simp [RowKit.intOf]; omega
      case neg =>
        obtain ⟨j, HJ⟩ : ∃ j, Hid (j = k - 1) := ⟨_, Lib.hid rfl⟩
        have hjl : j < ls.length := by rw [HJ.out]; omega
        have p0 := HC.out j _ (ics_at ls j hjl)
        have hwk : IntKind.wrap .i64 ((k : Int) - 1) = (j : Int) := by rw [IntWalk.i64_in _ (by omega), HJ.out]; omega
        have hjn : (j : Int) < (n : Int) := by have := HL.out; omega
        have hjn2 : j < n := by have := HL.out; omega
        have hkp : (k : Int) > 0 := by omega
        have hkd : decide ((k : Int) > 0) = true := decide_eq_true hkp
        have HBA := Lib.hid (show ¬ ls[j] < ls[k] → false = ok from fun h => HOK.out ▸ (decide_eq_false (fun c => by
          have h2 := (c k hl0 hl0).2 (by omega)
          have e : ls[j] = ls[k - 1]'(by omega) := by congr 1 <;> exact HJ.out
          rw [e] at h
          exact h h2)).symm)
        have HGT := Lib.hid (show (13 ≤ ls[k] ∧ ls[k] < 120) → ls[j] < ls[k] → GoodP ls (k + 1) from fun h1 h2 => HGS.out h1 (fun _ => by
          have e : ls[j] = ls[k - 1]'(by omega) := by congr 1 <;> exact HJ.out
          rw [← e]
          exact h2))
        clear HGS
        generalize ls[k] = y at g0 HBS HBA HGT
        generalize ls[j] = p at p0 HBA HGT
        by_cases hr : 13 ≤ y ∧ y < 120
        case neg =>
          have HF := Lib.hid (HBS.out hr)
          have hr2 : y < 13 ∨ (¬ y < 13 ∧ y ≥ 120) := by omega
          clear hr HBS HBA HGT
          rcases hr2 with h1 | ⟨h1, h2⟩
          all_goals
            go_wp2
            go_ret
            exact ⟨ret_boolB HF.out, Below.refl _ _⟩
        case pos =>
          obtain ⟨r1, r2⟩ := hr
          have r3 : ¬ y < 13 := by omega
          have r4 : ¬ y ≥ 120 := by omega
          by_cases hp : p < y
          case neg =>
            have HF := Lib.hid (HBA.out hp)
            have hp2 : p ≥ y := by omega
            clear HBS HBA HGT hp
            go_wp2
            go_ret
            exact ⟨ret_boolB HF.out, Below.refl _ _⟩
          case pos =>
            have HG1 := Lib.hid (HGT.out ⟨r1, r2⟩ hp)
            have hp2 : ¬ p ≥ y := by omega
            clear HBS HBA HGT hp
            go_wp2
            go_roundw
            case rel => exact ⟨k + 1, by omega, by go_num, by first | rfl | trivial, HG1⟩
            case measure => simp [RowKit.intOf]; omega
    case neg =>
      have HF := Lib.hid (HFIN.out k HG.out (by omega))
      go_wp2
      go_ret
      exact ⟨ret_boolB HF.out, Below.refl _ _⟩
theorem implSafe_is (v : Value) (ls : List Int) (r : Bool) (w : World) (h : Sl w 1 v ls.length (ics ls)) (hv : Low w.heap.size v) (hr : decide (PlacesM ls) = r) :
    Calls Tryz.prog 113 #[v] w fun e w' => e = .returned (.bool r) ∧ Below w.heap.size w w' := hr ▸ implSafe_any v ls w h hv

set_option maxHeartbeats 1000000 in
theorem corePoints_any (p : PtrM) (w : World) :
    Calls Tryz.prog 131 #[pv p] w fun e w' => e = .returned (.bool (decide (GoodM p))) ∧ Below w.heap.size w w' := by
  obtain ⟨r, HR⟩ : ∃ r, Hid (decide (GoodM p) = r) := ⟨_, Lib.hid rfl⟩
  rw [HR.out]
  have hB := Below.new1 (w := w) (.cells #[.int .i64 p.at_, .int .i64 p.sum, .int .i64 p.birth] 86)
  have hX := box_new w #[.int .i64 p.at_, .int .i64 p.sum, .int .i64 p.birth] 86
  by_cases hok : PtrOkM p
  case neg =>
    have HF := Lib.hid (show false = r from HR.out ▸ (decide_eq_false (fun c => hok (Or.inr c))).symm)
    have hor := decide_eq_false hok
    clear hok
    go_enter Tryz.func131, Tryz.ntmps131
    go_wp2_with fail
    refine (implPtrOk_is p _ _ hor).mono ?_
    rintro e w1 ⟨rfl, hb⟩
    have HB := Lib.hid (hB.trans (hb.mono hB.size))
    clear hB hX hb
    go_wp2
    go_ret
    exact ⟨ret_boolB HF.out, HB.out⟩
  case pos =>
    have hor := decide_eq_true hok
    obtain ⟨a, s, b⟩ := p
    by_cases hn : a = 0
    case pos =>
      have hz : s = 0 ∧ b = 0 := by
        rcases hok with h | h
        · exact ⟨h.2.1, h.2.2⟩
        · have := h.1; simp only at this; omega
      obtain ⟨rfl, rfl⟩ := hz
      subst hn
      have HF := Lib.hid (show false = r from HR.out ▸ (decide_eq_false (fun c => by have := c.1; simp only at this; omega)).symm)
      clear hok
      go_enter Tryz.func131, Tryz.ntmps131
      go_wp2_with fail
      refine (implPtrOk_is ⟨0, 0, 0⟩ _ _ hor).mono ?_
      rintro e w1 ⟨rfl, hb⟩
      have HB := Lib.hid (hB.trans (hb.mono hB.size))
      obtain ⟨x0, x1, x2⟩ := (hX.below hb hX.lt).three
      clear hB hX hb
      go_wp2
      go_ret
      exact ⟨ret_boolB HF.out, HB.out⟩
    case neg =>
      have HF := Lib.hid (show true = r from HR.out ▸ (decide_eq_true (by rcases hok with h | h; exact absurd h.1 hn; exact h)).symm)
      have hq : (a == 0) = false := by simpa using hn
      have hq2 : decide (a = 0) = false := by simpa using hn
      clear hok
      go_enter Tryz.func131, Tryz.ntmps131
      go_wp2_with fail
      refine (implPtrOk_is ⟨a, s, b⟩ _ _ hor).mono ?_
      rintro e w1 ⟨rfl, hb⟩
      have HB := Lib.hid (hB.trans (hb.mono hB.size))
      obtain ⟨x0, x1, x2⟩ := (hX.below hb hX.lt).three
      clear hB hX hb
      go_wp2
      go_ret
      exact ⟨ret_boolB HF.out, HB.out⟩
theorem corePoints_is (p : PtrM) (r : Bool) (w : World) (hr : decide (GoodM p) = r) :
    Calls Tryz.prog 131 #[pv p] w fun e w' => e = .returned (.bool r) ∧ Below w.heap.size w w' := hr ▸ corePoints_any p w

set_option maxHeartbeats 2000000 in
theorem implParts_any (v : Value) (ls : List PtrM) (w : World) (h : Sl w 3 v ls.length (pcs ls)) (hv : Low w.heap.size v) :
    Calls Tryz.prog 112 #[v] w fun e w' => e = .returned (.bool (decide (ls.length ≤ 8 ∧ PartsM ls))) ∧ Below w.heap.size w w' := by
  have hnot : ∀ (x : Bool) (w : World), (Op.unary .not (.bool x)).run Tryz.prog w = .ok (.bool (!x)) w := fun _ _ => rfl
  obtain ⟨ok, HOK⟩ : ∃ ok, Hid (decide (ls.length ≤ 8 ∧ PartsM ls) = ok) := ⟨_, Lib.hid rfl⟩
  rw [HOK.out]
  obtain ⟨n, HL⟩ : ∃ n, Hid (ls.length = n) := ⟨_, Lib.hid rfl⟩
  rw [HL.out] at h
  have hnm := h.le
  unfold maxLen at hnm
  have HFIN := Lib.hid (show (∀ (j : Nat) (h : j < ls.length), j < n → GoodM ls[j]) → decide (n ≤ 8) = ok from fun hg => by
    rw [← HOK.out, HL.out]
    have hp : PartsM ls := fun p hp => by
      obtain ⟨i, hi, rfl⟩ := List.mem_iff_getElem.1 hp
      exact hg i hi (by have := HL.out; omega)
    by_cases h8 : n ≤ 8 <;> simp [h8, hp])
  by_cases hn0 : n = 0
  · subst hn0
    have HF := Lib.hid (HFIN.out (fun j _ h => absurd h (Nat.not_lt_zero _)))
    obtain ⟨_, A, c, rfl, _, _, _⟩ := h
    go_enter Tryz.func112, Tryz.ntmps112
    go_wp2
    go_loopw [4, 7] (fun _ i wr => i = .int .i64 0 ∧ wr = w) (fun _ _ _ => 0)
    case atStart => exact ⟨rfl, rfl⟩
    case round =>
      obtain ⟨rfl, rfl⟩ := hrel
      go_wp2
      go_ret
      exact ⟨ret_boolB HF.out, Below.refl _ _⟩
  obtain ⟨b, off, c, rfl, hnc, hcm, hcell⟩ := h.form (by omega)
  have hbl : b < w.heap.size := hv b rfl
  have HC := Lib.hid hcell
  unfold maxLen at hcm
  clear hcell h hv
  go_enter Tryz.func112, Tryz.ntmps112
  go_wp2
  go_loopw [4, 7] (fun _ i wr => ∃ (k : Nat), k ≤ n ∧ i = .int .i64 k ∧ Hid (Below w.heap.size w wr) ∧ Hid (∀ (j : Nat) (h : j < ls.length), j < k → GoodM ls[j])) (fun _ i _ => n - (RowKit.intOf i).toNat)
  case atStart => exact ⟨0, Nat.zero_le _, rfl, Lib.hid (Below.refl _ _), Lib.hid (fun j _ h => absurd h (Nat.not_lt_zero _))⟩
  case round =>
    obtain ⟨k, hk, rfl, HB, HG⟩ := hrel
    by_cases hlt : k < n
    case pos =>
      have hl0 : k < ls.length := by rw [HL.out]; exact hlt
      obtain ⟨g0, g1, g2⟩ := ptr_read (fun j u hu => (HB.out.cell hbl).trans (HC.out j u hu)) k hl0
      have hk1 : (k : Int) < (n : Int) := by omega
      have HBS := Lib.hid (show ¬ GoodM ls[k] → false = ok from fun h => HOK.out ▸ (decide_eq_false (fun c => h (c.2 _ (List.getElem_mem hl0)))).symm)
      have HGS := Lib.hid (show GoodM ls[k] → ∀ (j : Nat) (h : j < ls.length), j < k + 1 → GoodM ls[j] from fun hg j hj hjk => by
        by_cases e : j = k
        · subst e; exact hg
        · exact HG.out j hj (by omega))
      generalize ls[k] = y at g0 g1 g2 HBS HGS
      clear HG hl0
      have hB := Below.new1 (w := wr) (.cells #[.int .i64 y.at_, .int .i64 y.sum, .int .i64 y.birth] 86)
      by_cases hg : GoodM y
      case neg =>
        have HF := Lib.hid (HBS.out hg)
        have hor := decide_eq_false hg
        clear hg HBS HGS
        go_wp2_with fail
        refine (corePoints_is y _ _ hor).mono ?_
        rintro e w1 ⟨rfl, hb⟩
        have HB1 := Lib.hid (HB.out.trans ((hB.trans (hb.mono hB.size)).mono HB.out.size))
        clear hB hb HB
        go_wp2
        go_ret
        exact ⟨ret_boolB HF.out, HB1.out⟩
      case pos =>
        have HG1 := Lib.hid (HGS.out hg)
        have hor := decide_eq_true hg
        clear hg HBS HGS
        go_wp2_with fail
        refine (corePoints_is y _ _ hor).mono ?_
        rintro e w1 ⟨rfl, hb⟩
        have HB1 := Lib.hid (HB.out.trans ((hB.trans (hb.mono hB.size)).mono HB.out.size))
        clear hB hb HB
        go_wp2
        go_roundw
        case rel => exact ⟨k + 1, by omega, by go_num, HB1, HG1⟩
        case measure => simp [RowKit.intOf]; omega
    case neg =>
      have HF := Lib.hid (HFIN.out (fun j hj _ => HG.out j hj (by have := HL.out; omega)))
      have hd : decide ((n : Int) ≤ 8) = decide (n ≤ 8) := by
        by_cases h8 : n ≤ 8
        · rw [decide_eq_true h8, decide_eq_true (by omega)]
        · rw [decide_eq_false h8, decide_eq_false (by omega)]
      clear HFIN
      go_wp2
      go_ret
      exact ⟨ret_boolB HF.out, HB.out⟩
theorem implParts_is (v : Value) (ls : List PtrM) (r : Bool) (w : World) (h : Sl w 3 v ls.length (pcs ls)) (hv : Low w.heap.size v) (hr : decide (ls.length ≤ 8 ∧ PartsM ls) = r) :
    Calls Tryz.prog 112 #[v] w fun e w' => e = .returned (.bool r) ∧ Below w.heap.size w w' := hr ▸ implParts_any v ls w h hv
end Go.Proofs.YtobjgdnmlibofaaGreat
