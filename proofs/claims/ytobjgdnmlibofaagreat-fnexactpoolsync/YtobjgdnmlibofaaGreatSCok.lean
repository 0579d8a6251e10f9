/-
  The document's CoreOk.
-/
import Derived.Test.YtobjgdnmlibofaaGreatKBox
import Derived.Test.YtobjgdnmlibofaaGreatSNm
import Derived.Test.YtobjgdnmlibofaaGreatSSm
import Derived.Test.YtobjgdnmlibofaaGreatSPl
import Derived.Test.YtobjgdnmlibofaaGreatSSet
import Derived.Test.YtobjgdnmlibofaaGreatICt
set_option maxRecDepth 100000
namespace Go.Proofs.YtobjgdnmlibofaaGreat
open Go.ChangeShapes Go.WideShapes Go.ChangeAt Go.RowKit Go.Proofs.Palim

set_option maxHeartbeats 8000000 in
theorem specCoreOk_any (vs vd vp vi : Value) (c : CoreM) (w : World) (h : CoreR w vs vd vp vi c) (hs : CoreShort c) :
    Calls Tryz.prog 26 #[cv c vs vd vp vi] w fun e w' => e = .returned (.bool (decide (CoreOkM c))) ∧ Below w.heap.size w w' := by
  have hnot : ∀ (x : Bool) (w : World), (Op.unary .not (.bool x)).run Tryz.prog w = .ok (.bool (!x)) w := fun _ _ => rfl
  obtain ⟨ok, HOK⟩ : ∃ ok, Hid (decide (CoreOkM c) = ok) := ⟨_, Lib.hid rfl⟩
  rw [HOK.out]
  have HBAD := Lib.hid (show ¬ CoreOkM c → false = ok from fun h => HOK.out ▸ (decide_eq_false h).symm)
  have HS := Lib.hid hs
  obtain ⟨A0, k0, A1, k1, A2, k2, A3, k3, rfl, rfl, rfl, rfl⟩ := h.forms
  have XC := Lib.hid (kbox_new h 44)
  have B := Lib.hid (Below.new1 (w := w) (.cells #[.int .i64 c.txg, .slice A0 c.sets.length k0, .slice A1 c.ddt.length k1, .slice A2 c.parts.length k2, .bool c.dirty, .slice A3 c.safe.length k3, .int .i64 c.logn] 44))
  clear h hs
  go_enter Tryz.func26, Tryz.ntmps26
  go_upto_region 1 with fail
  obtain ⟨W0, HWE⟩ : ∃ W0, w.alloc (.cells #[.int .i64 c.txg, .slice A0 c.sets.length k0, .slice A1 c.ddt.length k1, .slice A2 c.parts.length k2, .bool c.dirty, .slice A3 c.safe.length k3, .int .i64 c.logn] 44) = W0 := ⟨_, rfl⟩
  rw [HWE] at XC B ⊢
  clear HWE
  have n0 := XC.out.box.cell 0 rfl
  by_cases h1 : 0 ≤ c.txg
  case neg =>
    have HF := Lib.hid (HBAD.out (fun c => h1 (c.1.1)))
    have q : c.txg < 0 := by omega
    go_wp2
    go_ret
    exact ⟨ret_boolB HF.out, B.out⟩
  case pos =>
  have q1 : ¬ c.txg < 0 := by omega
  by_cases h2 : c.txg ≤ 1000000
  case neg =>
    have HF := Lib.hid (HBAD.out (fun c => h2 (c.1.2)))
    have q : c.txg > 1000000 := by omega
    go_wp2
    go_ret
    exact ⟨ret_boolB HF.out, B.out⟩
  case pos =>
  have q2 : ¬ c.txg > 1000000 := by omega
  have n2 := XC.out.box.cell 2 rfl
  by_cases hd : DdtOkM c.ddt
  case neg =>
    have HF := Lib.hid (HBAD.out (fun c => hd (c.2.1)))
    have hor := decide_eq_false hd
    clear hd
    go_wp2_with fail
    refine (SpecDdtOk_is _ c.ddt _ _ XC.out.reads.d XC.out.reads.ld hor).mono ?_
    rintro e w1 ⟨rfl, hb⟩
    have XC' := Lib.hid (XC.out.below hb)
    have B' := Lib.hid (B.out.trans (hb.mono B.out.size))
    clear hb XC B
    have XC := XC'
    have B := B'
    clear XC' B'
    go_wp2
    go_ret
    exact ⟨ret_boolB HF.out, B.out⟩
  case pos =>
  have hor := decide_eq_true hd
  have H_hd := Lib.hid hd
  clear hd
  go_wp2_with fail
  refine (SpecDdtOk_is _ c.ddt _ _ XC.out.reads.d XC.out.reads.ld hor).mono ?_
  rintro e w1 ⟨rfl, hb⟩
  have XC' := Lib.hid (XC.out.below hb)
  have B' := Lib.hid (B.out.trans (hb.mono B.out.size))
  clear hb XC B
  have XC := XC'
  have B := B'
  clear XC' B'
  clear hor n2
  have n3 := XC.out.box.cell 3 rfl
  by_cases h3 : c.parts.length ≤ 8
  case neg =>
    have HF := Lib.hid (HBAD.out (fun c => h3 (c.2.2.1)))
    have q : (c.parts.length : Int) > 8 := by omega
    go_wp2
    go_ret
    exact ⟨ret_boolB HF.out, B.out⟩
  case pos =>
  have q3 : ¬ (c.parts.length : Int) > 8 := by omega
  have n5 := XC.out.box.cell 5 rfl
  by_cases hp : PlacesM c.safe
  case neg =>
    have HF := Lib.hid (HBAD.out (fun c => hp (c.2.2.2.1)))
    have hor := decide_eq_false hp
    clear hp
    go_wp2_with fail
    refine (specPlaces_is _ c.safe _ _ XC.out.reads.i XC.out.reads.li hor).mono ?_
    rintro e w1 ⟨rfl, hb⟩
    have XC' := Lib.hid (XC.out.below hb)
    have B' := Lib.hid (B.out.trans (hb.mono B.out.size))
    clear hb XC B
    have XC := XC'
    have B := B'
    clear XC' B'
    go_wp2
    go_ret
    exact ⟨ret_boolB HF.out, B.out⟩
  case pos =>
  have hor := decide_eq_true hp
  have H_hp := Lib.hid hp
  clear hp
  go_wp2_with fail
  refine (specPlaces_is _ c.safe _ _ XC.out.reads.i XC.out.reads.li hor).mono ?_
  rintro e w1 ⟨rfl, hb⟩
  have XC' := Lib.hid (XC.out.below hb)
  have B' := Lib.hid (B.out.trans (hb.mono B.out.size))
  clear hb XC B
  have XC := XC'
  have B := B'
  clear XC' B'
  clear hor n5
  have n6 := XC.out.box.cell 6 rfl
  by_cases h4 : 0 ≤ c.logn
  case neg =>
    have HF := Lib.hid (HBAD.out (fun c => h4 (c.2.2.2.2.1.1)))
    have q : c.logn < 0 := by omega
    go_wp2
    go_ret
    exact ⟨ret_boolB HF.out, B.out⟩
  case pos =>
  have q4 : ¬ c.logn < 0 := by omega
  by_cases h5 : c.logn ≤ 8
  case neg =>
    have HF := Lib.hid (HBAD.out (fun c => h5 (c.2.2.2.2.1.2)))
    have q : c.logn > 8 := by omega
    go_wp2
    go_ret
    exact ⟨ret_boolB HF.out, B.out⟩
  case pos =>
  have q5 : ¬ c.logn > 8 := by omega
  have HP := Lib.hid (And.intro (And.intro h1 h2) (And.intro h3 (And.intro h4 h5)))
  clear h1 h2 h3 h4 h5
  go_wp2
  clear q1 q2 q3 q4 q5 n0 n3 n6
  go_loopw [3] (fun i wr => ∃ (k : Nat), k ≤ c.sets.length ∧ i = .int .i64 k ∧ Hid (Below w.heap.size w wr) ∧ Hid (KBox wr w.heap.size (.slice A0 c.sets.length k0) (.slice A1 c.ddt.length k1) (.slice A2 c.parts.length k2) (.slice A3 c.safe.length k3) c) ∧ Hid (∀ (j : Nat) (h : j < c.sets.length), j < k → SetOkC c.sets[j])) (fun i _ => c.sets.length - (RowKit.intOf i).toNat)
  case atStart => exact ⟨0, Nat.zero_le _, rfl, B, XC, Lib.hid (fun j _ h => absurd h (Nat.not_lt_zero _))⟩
  case round =>
    clear B XC
    obtain ⟨k, hk, rfl, B, XC, HG⟩ := hrel
    have n1 := XC.out.box.cell 1 rfl
    have hsl := HS.out.s
    by_cases hlt : k < c.sets.length
    case pos =>
      obtain ⟨b, off, c', hvv, _, _, hcell⟩ := XC.out.reads.s.form (by omega)
      injection hvv with e1 e2 e3
      subst e1 e3
      clear e2
      have HRD := Lib.hid (cset_read hcell k hlt)
      have hk1 : (k : Int) < (c.sets.length : Int) := by omega
      have HBS := Lib.hid (show ¬ SetOkC c.sets[k] → false = ok from fun h => HBAD.out (fun c' => h (c'.2.2.2.2.2.1 _ (List.getElem_mem hlt))))
      have HGS := Lib.hid (show SetOkC c.sets[k] → ∀ (j : Nat) (h : j < c.sets.length), j < k + 1 → SetOkC c.sets[j] from fun hg j hj hjk => by
        by_cases e : j = k
        · subst e; exact hg
        · exact HG.out j hj (by omega))
      have HZK := Lib.hid (HS.out.z _ (List.getElem_mem hlt))
      generalize c.sets[k] = x at HRD HBS HGS HZK
      clear HG hcell
      by_cases hg : SetOkC x
      case neg =>
        have HF := Lib.hid (HBS.out hg)
        have hor := decide_eq_false hg
        clear hg HBS HGS
        go_wp2_with (refine wpList_load_cs rfl _ rfl aggSetD rfl (cc x) (cc_length x) HRD.out ?_)
        refine (specSet_is x _ _ HZK.out hor).mono ?_
        rintro e w1 ⟨rfl, hb⟩
        have XC' := Lib.hid (XC.out.below hb)
        have B' := Lib.hid (B.out.trans (hb.mono B.out.size))
        clear hb XC B
        have XC := XC'
        have B := B'
        clear XC' B'
        go_wp2
        go_ret
        exact ⟨ret_boolB HF.out, B.out⟩
      case pos =>
        have HG1 := Lib.hid (HGS.out hg)
        have hor := decide_eq_true hg
        clear hg HBS HGS
        go_wp2_with (refine wpList_load_cs rfl _ rfl aggSetD rfl (cc x) (cc_length x) HRD.out ?_)
        refine (specSet_is x _ _ HZK.out hor).mono ?_
        rintro e w1 ⟨rfl, hb⟩
        have XC' := Lib.hid (XC.out.below hb)
        have B' := Lib.hid (B.out.trans (hb.mono B.out.size))
        clear hb XC B
        have XC := XC'
        have B := B'
        clear XC' B'
        go_wp2
        go_roundw
        case rel => exact ⟨k + 1, by omega, by go_num, B, XC, HG1⟩
        case measure => simp [RowKit.intOf]; omega
    case neg =>
      have HSO := Lib.hid (show ∀ x ∈ c.sets, SetOkC x from fun x hx => by
        obtain ⟨i, hi, rfl⟩ := List.mem_iff_getElem.1 hx
        exact HG.out i hi (by omega))
      have hkn : ¬ (k : Int) < (c.sets.length : Int) := by omega
      clear HG
      go_wp2
      clear n1 hkn hlt
      go_loopw [4] (fun i wr => ∃ (k : Nat), k ≤ c.parts.length ∧ i = .int .i64 k ∧ Hid (Below w.heap.size w wr) ∧ Hid (KBox wr w.heap.size (.slice A0 c.sets.length k0) (.slice A1 c.ddt.length k1) (.slice A2 c.parts.length k2) (.slice A3 c.safe.length k3) c) ∧ Hid (∀ (j : Nat) (h : j < c.parts.length), j < k → GoodM c.parts[j])) (fun i _ => c.parts.length - (RowKit.intOf i).toNat)
      case atStart => exact ⟨0, Nat.zero_le _, rfl, B, XC, Lib.hid (fun j _ h => absurd h (Nat.not_lt_zero _))⟩
      case round =>
        clear B XC
        obtain ⟨k, hk, rfl, B, XC, HG⟩ := hrel
        have n3 := XC.out.box.cell 3 rfl
        have hpl := HS.out.p
        by_cases hlt : k < c.parts.length
        case pos =>
          obtain ⟨b, off, c', hvv, _, _, hcell⟩ := XC.out.reads.p.form (by omega)
          injection hvv with e1 e2 e3
          subst e1 e3
          clear e2
          have hbl : b < wr.heap.size := XC.out.reads.lp b rfl
          obtain ⟨g0, g1, g2⟩ := ptr_read hcell k hlt
          have hk1 : (k : Int) < (c.parts.length : Int) := by omega
          have HBS := Lib.hid (show ¬ GoodM c.parts[k] → false = ok from fun h => HBAD.out (fun c' => h (c'.2.2.2.2.2.2.1 _ (List.getElem_mem hlt))))
          have HGS := Lib.hid (show GoodM c.parts[k] → ∀ (j : Nat) (h : j < c.parts.length), j < k + 1 → GoodM c.parts[j] from fun hg j hj hjk => by
            by_cases e : j = k
            · subst e; exact hg
            · exact HG.out j hj (by omega))
          generalize c.parts[k] = y at g0 g1 g2 HBS HGS
          clear HG hcell
          by_cases hpo : PtrOkM y
          case neg =>
            have HF := Lib.hid (HBS.out (fun c => hpo (Or.inr c)))
            have hor := decide_eq_false hpo
            clear hpo HBS HGS
            go_wp2_with fail
            refine (specPtrOk_is y _ _ hor).mono ?_
            rintro e w1 ⟨rfl, hb⟩
            have XC' := Lib.hid (XC.out.below hb)
            have B' := Lib.hid (B.out.trans (hb.mono B.out.size))
            clear hb XC B
            have XC := XC'
            have B := B'
            clear XC' B'
            go_wp2
            go_ret
            exact ⟨ret_boolB HF.out, B.out⟩
          case pos =>
            have hor := decide_eq_true hpo
            by_cases hy0 : y.at_ = 0
            case pos =>
              have HF := Lib.hid (HBS.out (fun c => by have := c.1; omega))
              have hq1 : (y.at_ == 0) = true := by simpa using hy0
              have hq2 : decide (y.at_ = 0) = true := by simpa using hy0
              clear hpo HBS HGS hy0
              go_wp2_with fail
              refine (specPtrOk_is y _ _ hor).mono ?_
              rintro e w1 ⟨rfl, hb⟩
              have g0' := (hb.cell (p := ⟨b, off + k * 3, none⟩) hbl).trans g0
              have XC' := Lib.hid (XC.out.below hb)
              have B' := Lib.hid (B.out.trans (hb.mono B.out.size))
              clear hb XC B
              have XC := XC'
              have B := B'
              clear XC' B'
              have n3' := XC.out.box.cell 3 rfl
              clear g0 n3
              go_wp2
              go_ret
              exact ⟨ret_boolB HF.out, B.out⟩
            case neg =>
              have HG1 := Lib.hid (HGS.out (by rcases hpo with h | h; exact absurd h.1 hy0; exact h))
              have hq1 : (y.at_ == 0) = false := by simpa using hy0
              have hq2 : decide (y.at_ = 0) = false := by simpa using hy0
              clear hpo HBS HGS hy0
              go_wp2_with fail
              refine (specPtrOk_is y _ _ hor).mono ?_
              rintro e w1 ⟨rfl, hb⟩
              have g0' := (hb.cell (p := ⟨b, off + k * 3, none⟩) hbl).trans g0
              have XC' := Lib.hid (XC.out.below hb)
              have B' := Lib.hid (B.out.trans (hb.mono B.out.size))
              clear hb XC B
              have XC := XC'
              have B := B'
              clear XC' B'
              have n3' := XC.out.box.cell 3 rfl
              clear g0 n3
              go_wp2
              go_roundw
              case rel => exact ⟨k + 1, by omega, by go_num, B, XC, HG1⟩
              case measure => simp [RowKit.intOf]; omega
        case neg =>
          have HPO := Lib.hid (show PartsM c.parts from fun x hx => by
            obtain ⟨i, hi, rfl⟩ := List.mem_iff_getElem.1 hx
            exact HG.out i hi (by omega))
          have hkn : ¬ (k : Int) < (c.parts.length : Int) := by omega
          have HNN := Lib.hid (names_short HS.out.s HS.out.z)
          clear HG
          go_wp2_with (refine wpList_load_box rfl _ rfl aggCore rfl (kcore c (.slice A0 c.sets.length k0) (.slice A1 c.ddt.length k1) (.slice A2 c.parts.length k2) (.slice A3 c.safe.length k3)) rfl XC.out.box ?_)
          refine (names_any _ _ _ _ c _ XC.out.reads HS.out).mono ?_
          rintro e w1 ⟨u, rfl, hown, hb⟩
          have HBR := Lib.hid (show BookR w1 u (namesM c.sets) from ⟨by rw [namesM_length]; exact sl_of_own hown, fun b e => (hown.lt b e).2⟩)
          clear hown
          have XC' := Lib.hid (XC.out.below hb)
          have B' := Lib.hid (B.out.trans (hb.mono B.out.size))
          clear hb XC B
          have XC := XC'
          have B := B'
          clear XC' B'
          go_wp2_with fail
          refine (BookOk_any _ _ _ HBR.out HNN.out).mono ?_
          rintro e w2 ⟨rfl, hb⟩
          have XC' := Lib.hid (XC.out.below hb)
          have B' := Lib.hid (B.out.trans (hb.mono B.out.size))
          clear hb XC B
          have XC := XC'
          have B := B'
          clear XC' B'
          clear HBR
          by_cases hbk : BookOkM (namesM c.sets)
          case neg =>
            rw [decide_eq_false hbk]
            have HF := Lib.hid (HBAD.out (fun c => hbk c.2.2.2.2.2.2.2.1))
            clear hbk
            go_wp2
            go_ret
            exact ⟨ret_boolB HF.out, B.out⟩
          case pos =>
          rw [decide_eq_true hbk]
          have HBK := Lib.hid hbk
          clear hbk
          have n0 := XC.out.box.cell 0 rfl
          have n1 := XC.out.box.cell 1 rfl
          have n2 := XC.out.box.cell 2 rfl
          have n3 := XC.out.box.cell 3 rfl
          have n4 := XC.out.box.cell 4 rfl
          have n5 := XC.out.box.cell 5 rfl
          have n6 := XC.out.box.cell 6 rfl
          go_wp2_with fail
          clear n0 n1 n2 n3 n4 n5 n6
          refine (specCounts_any _ _ _ _ c _ XC.out.reads HS.out H_hd.out).mono ?_
          rintro e w3 ⟨rfl, hb⟩
          have XC' := Lib.hid (XC.out.below hb)
          have B' := Lib.hid (B.out.trans (hb.mono B.out.size))
          clear hb XC B
          have XC := XC'
          have B := B'
          clear XC' B'
          by_cases hct : CountsM c
          case neg =>
            rw [decide_eq_false hct]
            have HF := Lib.hid (HBAD.out (fun c => hct c.2.2.2.2.2.2.2.2.1))
            clear hct
            go_wp2
            go_ret
            exact ⟨ret_boolB HF.out, B.out⟩
          case pos =>
          rw [decide_eq_true hct]
          have HCT := Lib.hid hct
          clear hct
          have n0 := XC.out.box.cell 0 rfl
          have n1 := XC.out.box.cell 1 rfl
          have n2 := XC.out.box.cell 2 rfl
          have n3 := XC.out.box.cell 3 rfl
          have n4 := XC.out.box.cell 4 rfl
          have n5 := XC.out.box.cell 5 rfl
          have n6 := XC.out.box.cell 6 rfl
          go_wp2_with fail
          clear n0 n1 n2 n3 n4 n5 n6
          refine (specSums_any _ _ _ _ c _ XC.out.reads HS.out H_hd.out).mono ?_
          rintro e w4 ⟨rfl, hb⟩
          have XC' := Lib.hid (XC.out.below hb)
          have B' := Lib.hid (B.out.trans (hb.mono B.out.size))
          clear hb XC B
          have XC := XC'
          have B := B'
          clear XC' B'
          have HF := Lib.hid (show decide (SumsM c) = ok from by
            rw [← HOK.out]
            by_cases hsm : SumsM c
            · rw [decide_eq_true hsm, decide_eq_true (show CoreOkM c from ⟨HP.out.1, H_hd.out, HP.out.2.1, H_hp.out, HP.out.2.2, HSO.out, HPO.out, HBK.out, HCT.out, hsm⟩)]
            · rw [decide_eq_false hsm, decide_eq_false (fun c : CoreOkM _ => hsm c.2.2.2.2.2.2.2.2.2)])
          go_wp2
          go_ret
          exact ⟨ret_boolB HF.out, B.out⟩
theorem specCoreOk_is (vs vd vp vi : Value) (c : CoreM) (r : Bool) (w : World) (h : CoreR w vs vd vp vi c) (hs : CoreShort c) (hr : decide (CoreOkM c) = r) :
    Calls Tryz.prog 26 #[cv c vs vd vp vi] w fun e w' => e = .returned (.bool r) ∧ Below w.heap.size w w' := hr ▸ specCoreOk_any vs vd vp vi c w h hs
end Go.Proofs.YtobjgdnmlibofaaGreat
