/-
  impl.RoomMay.
-/
import Derived.Test.YthhgjjdnkhmggaaRoom
set_option maxRecDepth 100000
namespace Go.Proofs.Ythhgjjdnkhmggaa
open Go.ChangeShapes Go.WideShapes Go.ChangeAt Go.RowKit Go.Proofs.Palim

set_option maxHeartbeats 1000000 in
theorem implRoomMay_is (vs vd vp vi : Value) (c : CoreM) (n : Int) (r : Bool) (w : World) (h : CoreR w vs vd vp vi c) (hs : CoreShort c) (hn0 : -9223372036854775808 ≤ n) (hr : decide (MayM c n) = r) :
    Calls Try.prog 23 #[cv c vs vd vp vi, .int .i64 n] w fun e w' => e = .returned (.bool r) ∧ Below w.heap.size w w' := by
  obtain ⟨s, HSF⟩ : ∃ s, Hid (sumF c n = s) := ⟨_, Lib.hid rfl⟩
  have hs128 : s ≤ 128 := by have := (sums_le c n).2.2; rw [HSF.out] at this; exact this
  have HGO := Lib.hid (show 16 < s → RoomOk c n from fun hh => by
    refine Classical.byContradiction fun hc => ?_
    have := (sums_bad hc).2.2
    rw [HSF.out] at this
    omega)
  have HM := Lib.hid (show MayM c n ↔ (16 < s ∧ 32 ≤ n - 13 - (c.ddt.length : Int) - 1 ∧ c.ddt.length < 48) from ⟨fun h => by have := h.2; rwa [HSF.out] at this, fun h => ⟨HGO.out h.1, by rw [HSF.out]; exact h⟩⟩)
  have HS := Lib.hid hs
  have HR := Lib.hid hr
  obtain ⟨A0, k0, A1, k1, A2, k2, A3, k3, rfl, rfl, rfl, rfl⟩ := h.forms
  have HRD := Lib.hid h
  have hb0 := Below.new1 (w := w) (.cells #[.int .i64 c.txg, .slice A0 c.sets.length k0, .slice A1 c.ddt.length k1, .slice A2 c.parts.length k2, .bool c.dirty, .slice A3 c.safe.length k3, .int .i64 c.logn] 34)
  have B := Lib.hid hb0
  have XC := Lib.hid ((kbox_new h 34).box)
  clear h hs hr hb0
  go_enter Try.func23, Try.ntmps23
  go_upto_region 1 with fail
  obtain ⟨W0, HWE⟩ : ∃ W0, w.alloc (.cells #[.int .i64 c.txg, .slice A0 c.sets.length k0, .slice A1 c.ddt.length k1, .slice A2 c.parts.length k2, .bool c.dirty, .slice A3 c.safe.length k3, .int .i64 c.logn] 34) = W0 := ⟨_, rfl⟩
  rw [HWE] at XC B ⊢
  clear HWE
  go_wp2_with (refine wpList_load_box rfl _ rfl aggCore rfl (kcore c (.slice A0 c.sets.length k0) (.slice A1 c.ddt.length k1) (.slice A2 c.parts.length k2) (.slice A3 c.safe.length k3)) rfl XC.out ?_)
  refine (roomOf_is _ _ _ _ c n _ (HRD.out.below B.out) HS.out hn0).mono ?_
  rintro e w2 ⟨a0, a1, b0, b1, f0, f1, rfl, hsp, hb⟩
  have HSP := Lib.hid hsp
  have XC' := Lib.hid (XC.out.below hb XC.out.lt)
  have B' := Lib.hid (B.out.trans (hb.mono B.out.size))
  clear XC B hb hsp
  have hf2 := field2 (.int .u64 (a0 : Int)) (.int .u64 (a1 : Int)) (.int .u64 (b0 : Int)) (.int .u64 (b1 : Int)) (.int .u64 (f0 : Int)) (.int .u64 (f1 : Int))
  go_wp2_with fail
  refine (bcount_is _ _ s _ HSP.out.f ((cnt_ok c n (partF c n)).trans HSF.out) _).mono ?_
  rintro e w3 ⟨rfl, hb⟩
  have XC := Lib.hid (XC'.out.below hb XC'.out.lt)
  have B := Lib.hid (B'.out.trans (hb.mono B'.out.size))
  clear hb XC' B'
  have n2 := XC.out.cell 2 rfl
  by_cases h16 : 16 < s
  case neg =>
    have HF := Lib.hid (show false = r from by rw [← HR.out, decide_eq_false]; rw [HM.out]; exact fun h => h16 h.1)
    have q1 : ¬ (s : Int) > 16 := by omega
    go_wp2
    go_ret
    exact ⟨by first | exact ret_boolB HF.out | exact ret_boolB ((decide_eq_false (by omega)).trans HF.out), B.out⟩
  case pos =>
    have q1 : (s : Int) > 16 := by omega
    have hn13 := free_pos (c := c) (n := n) (by rw [HSF.out]; omega)
    have hn120 := (HGO.out h16).2
    have hd48 := (HGO.out h16).1.2.1.1
    have e1 : IntKind.wrap .i64 (n - 13) = n - 13 := IntWalk.i64_in _ (by omega)
    have e2 : IntKind.wrap .i64 ((c.ddt.length : Int) + 1) = (c.ddt.length : Int) + 1 := IntWalk.i64_in _ (by omega)
    have e3 : IntKind.wrap .i64 (n - 13 - ((c.ddt.length : Int) + 1)) = n - 13 - ((c.ddt.length : Int) + 1) := IntWalk.i64_in _ (by omega)
    by_cases h32 : 32 ≤ n - 13 - (c.ddt.length : Int) - 1
    case neg =>
      have HF := Lib.hid (show false = r from by rw [← HR.out, decide_eq_false]; rw [HM.out]; exact fun h => h32 h.2.1)
      have q2 : ¬ n - 13 - ((c.ddt.length : Int) + 1) ≥ 32 := by omega
      go_wp2
      go_ret
      exact ⟨by first | exact ret_boolB HF.out | exact ret_boolB ((decide_eq_false (by omega)).trans HF.out), B.out⟩
    case pos =>
      have q2 : n - 13 - ((c.ddt.length : Int) + 1) ≥ 32 := by omega
      by_cases h48 : c.ddt.length < 48
      case neg =>
        have HF := Lib.hid (show false = r from by rw [← HR.out, decide_eq_false]; rw [HM.out]; exact fun h => h48 h.2.2)
        have q3 : ¬ (c.ddt.length : Int) < 48 := by omega
        go_wp2
        go_ret
        exact ⟨by first | exact ret_boolB HF.out | exact ret_boolB ((decide_eq_false (by omega)).trans HF.out), B.out⟩
      case pos =>
        have HF := Lib.hid (show true = r from by rw [← HR.out, decide_eq_true]; exact HM.out.2 ⟨h16, h32, h48⟩)
        have q3 : (c.ddt.length : Int) < 48 := by omega
        go_wp2
        go_ret
        exact ⟨by first | exact ret_boolB HF.out | exact ret_boolB ((decide_eq_true (by omega)).trans HF.out), B.out⟩
end Go.Proofs.Ythhgjjdnkhmggaa
