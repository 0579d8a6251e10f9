/-
  impl's CoreOk.
-/
import Derived.Test.YtobjgdnmlibofaaGreatKBox
import Derived.Test.YtobjgdnmlibofaaGreatICt
import Derived.Test.YtobjgdnmlibofaaGreatISafe
set_option maxRecDepth 100000
namespace Go.Proofs.YtobjgdnmlibofaaGreat
open Go.ChangeShapes Go.WideShapes Go.ChangeAt Go.RowKit Go.Proofs.Palim

theorem setok_pts {c : CoreM} (h : ∀ x ∈ c.sets, SetOkC x) : ∀ p ∈ ptsM c.sets, PtrOkM p := fun p hp => by
  obtain ⟨x, hx, hpx⟩ := List.mem_flatMap.1 hp
  exact (h x hx).2.2.2.2 p hpx
set_option maxHeartbeats 8000000 in
theorem implCoreOk_any (vs vd vp vi : Value) (c : CoreM) (w : World) (h : CoreR w vs vd vp vi c) (hs : CoreShort c) :
    Calls Tryz.prog 66 #[cv c vs vd vp vi] w fun e w' => e = .returned (.bool (decide (CoreOkM c))) ∧ Below w.heap.size w w' := by
  have hnot : ∀ (x : Bool) (w : World), (Op.unary .not (.bool x)).run Tryz.prog w = .ok (.bool (!x)) w := fun _ _ => rfl
  obtain ⟨ok, HOK⟩ : ∃ ok, Hid (decide (CoreOkM c) = ok) := ⟨_, Lib.hid rfl⟩
  rw [HOK.out]
  have HBAD := Lib.hid (show ¬ CoreOkM c → false = ok from fun h => HOK.out ▸ (decide_eq_false h).symm)
  have HS := Lib.hid hs
  obtain ⟨A0, k0, A1, k1, A2, k2, A3, k3, rfl, rfl, rfl, rfl⟩ := h.forms
  have XC := Lib.hid (kbox_new h 44)
  have B := Lib.hid (Below.new1 (w := w) (.cells #[.int .i64 c.txg, .slice A0 c.sets.length k0, .slice A1 c.ddt.length k1, .slice A2 c.parts.length k2, .bool c.dirty, .slice A3 c.safe.length k3, .int .i64 c.logn] 44))
  clear h hs
  go_enter Tryz.func66, Tryz.ntmps66
  go_upto_region 1 with fail
  obtain ⟨W0, HWE⟩ : ∃ W0, w.alloc (.cells #[.int .i64 c.txg, .slice A0 c.sets.length k0, .slice A1 c.ddt.length k1, .slice A2 c.parts.length k2, .bool c.dirty, .slice A3 c.safe.length k3, .int .i64 c.logn] 44) = W0 := ⟨_, rfl⟩
  rw [HWE] at XC B ⊢
  clear HWE
  have n0 := XC.out.box.cell 0 rfl
  by_cases h1 : 0 ≤ c.txg
  case neg =>
    have HF := Lib.hid (HBAD.out (fun c => h1 (c.1.1)))
    have q : ¬ c.txg ≥ 0 := h1
    go_wp2
    go_ret
    exact ⟨ret_boolB HF.out, B.out⟩
  case pos =>
  have q1 : c.txg ≥ 0 := h1
  by_cases h2 : c.txg ≤ 1000000
  case neg =>
    have HF := Lib.hid (HBAD.out (fun c => h2 (c.1.2)))
    go_wp2
    go_ret
    exact ⟨ret_boolB HF.out, B.out⟩
  case pos =>
  have n2 := XC.out.box.cell 2 rfl
  by_cases hd : DdtOkM c.ddt
  case neg =>
    have HF := Lib.hid (HBAD.out (fun c => hd (c.2.1)))
    have hor := decide_eq_false hd
    clear hd
    go_wp2_with fail
    refine (ImplDdtOk_is _ c.ddt _ _ XC.out.reads.d XC.out.reads.ld hor).mono ?_
    rintro e w1 ⟨rfl, hb⟩
    have XC' := Lib.hid (XC.out.below hb)
    have B' := Lib.hid (B.out.trans (hb.mono B.out.size))
    clear hb XC B
    have XC := XC'
    have B := B'
    clear XC' B'
    go_wp2
    go_ret
    exact ⟨ret_boolB HF.out, B.out⟩
  case pos =>
  have hor := decide_eq_true hd
  have H_hd := Lib.hid hd
  clear hd
  go_wp2_with fail
  refine (ImplDdtOk_is _ c.ddt _ _ XC.out.reads.d XC.out.reads.ld hor).mono ?_
  rintro e w1 ⟨rfl, hb⟩
  have XC' := Lib.hid (XC.out.below hb)
  have B' := Lib.hid (B.out.trans (hb.mono B.out.size))
  clear hb XC B
  have XC := XC'
  have B := B'
  clear XC' B'
  clear hor n2
  have n3 := XC.out.box.cell 3 rfl
  by_cases hpt : (c.parts.length ≤ 8 ∧ PartsM c.parts)
  case neg =>
    have HF := Lib.hid (HBAD.out (fun c => hpt (⟨c.2.2.1, c.2.2.2.2.2.2.1⟩)))
    have hor := decide_eq_false hpt
    clear hpt
    go_wp2_with fail
    refine (implParts_is _ c.parts _ _ XC.out.reads.p XC.out.reads.lp hor).mono ?_
    rintro e w1 ⟨rfl, hb⟩
    have XC' := Lib.hid (XC.out.below hb)
    have B' := Lib.hid (B.out.trans (hb.mono B.out.size))
    clear hb XC B
    have XC := XC'
    have B := B'
    clear XC' B'
    go_wp2
    go_ret
    exact ⟨ret_boolB HF.out, B.out⟩
  case pos =>
  have hor := decide_eq_true hpt
  have H_hpt := Lib.hid hpt
  clear hpt
  go_wp2_with fail
  refine (implParts_is _ c.parts _ _ XC.out.reads.p XC.out.reads.lp hor).mono ?_
  rintro e w1 ⟨rfl, hb⟩
  have XC' := Lib.hid (XC.out.below hb)
  have B' := Lib.hid (B.out.trans (hb.mono B.out.size))
  clear hb XC B
  have XC := XC'
  have B := B'
  clear XC' B'
  clear hor n3
  have n5 := XC.out.box.cell 5 rfl
  by_cases hp : PlacesM c.safe
  case neg =>
    have HF := Lib.hid (HBAD.out (fun c => hp (c.2.2.2.1)))
    have hor := decide_eq_false hp
    clear hp
    go_wp2_with fail
    refine (implSafe_is _ c.safe _ _ XC.out.reads.i XC.out.reads.li hor).mono ?_
    rintro e w1 ⟨rfl, hb⟩
    have XC' := Lib.hid (XC.out.below hb)
    have B' := Lib.hid (B.out.trans (hb.mono B.out.size))
    clear hb XC B
    have XC := XC'
    have B := B'
    clear XC' B'
    go_wp2
    go_ret
    exact ⟨ret_boolB HF.out, B.out⟩
  case pos =>
  have hor := decide_eq_true hp
  have H_hp := Lib.hid hp
  clear hp
  go_wp2_with fail
  refine (implSafe_is _ c.safe _ _ XC.out.reads.i XC.out.reads.li hor).mono ?_
  rintro e w1 ⟨rfl, hb⟩
  have XC' := Lib.hid (XC.out.below hb)
  have B' := Lib.hid (B.out.trans (hb.mono B.out.size))
  clear hb XC B
  have XC := XC'
  have B := B'
  clear XC' B'
  clear hor n5
  have n6 := XC.out.box.cell 6 rfl
  by_cases h4 : 0 ≤ c.logn
  case neg =>
    have HF := Lib.hid (HBAD.out (fun c => h4 (c.2.2.2.2.1.1)))
    have q : ¬ c.logn ≥ 0 := h4
    go_wp2
    go_ret
    exact ⟨ret_boolB HF.out, B.out⟩
  case pos =>
  have q4 : c.logn ≥ 0 := h4
  by_cases h5 : c.logn ≤ 8
  case neg =>
    have HF := Lib.hid (HBAD.out (fun c => h5 (c.2.2.2.2.1.2)))
    go_wp2
    go_ret
    exact ⟨ret_boolB HF.out, B.out⟩
  case pos =>
  have n1 := XC.out.box.cell 1 rfl
  by_cases hst : ((∀ x ∈ c.sets, SetOkC x) ∧ BookOkM (namesM c.sets))
  case neg =>
    have HF := Lib.hid (HBAD.out (fun c => hst (⟨c.2.2.2.2.2.1, c.2.2.2.2.2.2.2.1⟩)))
    have hor := decide_eq_false hst
    clear hst
    go_wp2_with fail
    refine (implSets_is _ c.sets _ _ XC.out.reads.s XC.out.reads.ls HS.out.s HS.out.z hor).mono ?_
    rintro e w1 ⟨rfl, hb⟩
    have XC' := Lib.hid (XC.out.below hb)
    have B' := Lib.hid (B.out.trans (hb.mono B.out.size))
    clear hb XC B
    have XC := XC'
    have B := B'
    clear XC' B'
    go_wp2
    go_ret
    exact ⟨ret_boolB HF.out, B.out⟩
  case pos =>
  have hor := decide_eq_true hst
  have H_hst := Lib.hid hst
  clear hst
  go_wp2_with fail
  refine (implSets_is _ c.sets _ _ XC.out.reads.s XC.out.reads.ls HS.out.s HS.out.z hor).mono ?_
  rintro e w1 ⟨rfl, hb⟩
  have XC' := Lib.hid (XC.out.below hb)
  have B' := Lib.hid (B.out.trans (hb.mono B.out.size))
  clear hb XC B
  have XC := XC'
  have B := B'
  clear XC' B'
  clear hor n1
  have HF := Lib.hid (show decide (tabM (ptsM c.sets) [] = some c.ddt) = ok from by
    rw [← HOK.out]
    have hti := tab_iff H_hd.out (setok_pts H_hst.out.1)
    by_cases ht : tabM (ptsM c.sets) [] = some c.ddt
    · obtain ⟨t1, t2⟩ := hti.1 ht
      rw [decide_eq_true ht, decide_eq_true (show CoreOkM c from ⟨⟨h1, h2⟩, H_hd.out, H_hpt.out.1, H_hp.out, ⟨h4, h5⟩, H_hst.out.1, H_hpt.out.2, H_hst.out.2, t1, t2⟩)]
    · rw [decide_eq_false ht, decide_eq_false (fun c : CoreOkM _ => ht (hti.2 ⟨c.2.2.2.2.2.2.2.2.1, c.2.2.2.2.2.2.2.2.2⟩))])
  have n0 := XC.out.box.cell 0 rfl
  have n1 := XC.out.box.cell 1 rfl
  have n2 := XC.out.box.cell 2 rfl
  have n3 := XC.out.box.cell 3 rfl
  have n4 := XC.out.box.cell 4 rfl
  have n5 := XC.out.box.cell 5 rfl
  have n6 := XC.out.box.cell 6 rfl
  go_wp2_with fail
  clear n0 n1 n2 n3 n4 n5 n6
  refine (implCounts_any _ _ _ _ c _ XC.out.reads HS.out H_hst.out.1 H_hd.out.1).mono ?_
  rintro e w1 ⟨rfl, hb⟩
  have XC' := Lib.hid (XC.out.below hb)
  have B' := Lib.hid (B.out.trans (hb.mono B.out.size))
  clear hb XC B
  have XC := XC'
  have B := B'
  clear XC' B'
  go_wp2
  go_ret
  exact ⟨ret_boolB HF.out, B.out⟩
theorem implCoreOk_is (vs vd vp vi : Value) (c : CoreM) (r : Bool) (w : World) (h : CoreR w vs vd vp vi c) (hs : CoreShort c) (hr : decide (CoreOkM c) = r) :
    Calls Tryz.prog 66 #[cv c vs vd vp vi] w fun e w' => e = .returned (.bool r) ∧ Below w.heap.size w w' := hr ▸ implCoreOk_any vs vd vp vi c w h hs
end Go.Proofs.YtobjgdnmlibofaaGreat
