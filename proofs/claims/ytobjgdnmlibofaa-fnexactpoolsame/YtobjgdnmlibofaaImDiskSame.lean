/-
  impl's DiskSame.
-/
import Derived.Test.YtobjgdnmlibofaaImEqual
set_option maxRecDepth 100000
namespace Go.Proofs.Ytobjgdnmlibofaa
open Go.ChangeShapes Go.WideShapes Go.ChangeAt Go.RowKit Go.Proofs.Palim

set_option maxHeartbeats 1000000 in
theorem ImplDiskSame_any (d f : DiskM) (a0 a1 al b0 b1 bl : Value) (w : World) (h : DiskR w a0 a1 al d) (k : DiskR w b0 b1 bl f) (hs : DiskShort d) (ks : DiskShort f) :
    Calls Try.prog 15 #[.agg #[a0, a1, al], .agg #[b0, b1, bl]] w fun e w' => e = .returned (.bool (decide (SameM d f))) ∧ Below w.heap.size w w' := by
  have HS := Lib.hid hs
  have KS := Lib.hid ks
  have HD := Lib.hid h
  have HF := Lib.hid k
  clear h k hs ks
  obtain ⟨hA, hC, hsz, hB⟩ := box2 w #[a0, a1, al] #[b0, b1, bl] 39 39
  have RA := Lib.hid (HD.out.below hB)
  have RB := Lib.hid (HF.out.below hB)
  have HB := Lib.hid hB
  clear hA hC hsz hB
  have hbe : ∀ q, Below w.heap.size w (((w.alloc (.cells #[a0, a1, al] 39)).alloc (.cells #[b0, b1, bl] 39)).drewN q) := fun q => ⟨HB.out.os, HB.out.tape, HB.out.output, HB.out.size, HB.out.block⟩
  have HBE := Lib.hid hbe
  clear hbe
  by_cases e0 : d.s0 = f.s0
  · by_cases e1 : d.s1 = f.s1
    · have E0 := Lib.hid (decide_eq_true e0)
      have E1 := Lib.hid (decide_eq_true e1)
      have ES := Lib.hid (show decide (d.late = f.late) = decide (SameM d f) from dec_eq (by simp only [decide_eq_true_eq]; exact ⟨fun h => ⟨e0, e1, h⟩, fun h => h.2.2⟩))
      clear e0 e1
      go_enter Try.func15, Try.ntmps15
      go_wp2_with fail
      refine (equalStr_is a0 b0 d.s0 f.s0 _ RA.out.r0 RB.out.r0 HS.out.n0 KS.out.n0 true E0.out).mono ?_
      rintro e w1 ⟨rfl, q1, rfl⟩
      go_wp2_with fail
      refine (equalStr_is a1 b1 d.s1 f.s1 _ (sl_drewN RA.out.r1 q1) (sl_drewN RB.out.r1 q1) HS.out.n1 KS.out.n1 true E1.out).mono ?_
      rintro e w1 ⟨rfl, q2, rfl⟩
      go_wp2_with fail
      refine (equalLate_any al bl d.late f.late _ (sl_drewN RA.out.rl _) (sl_drewN RB.out.rl _) HS.out.nl KS.out.nl).mono ?_
      rintro e w1 ⟨rfl, q3, rfl⟩
      obtain ⟨r, HR⟩ : ∃ r, Hid (decide (SameM d f) = r) := ⟨_, Lib.hid rfl⟩
      rw [ES.out, HR.out]
      go_wp2
      go_ret
      exact ⟨ret_bool HR.out.symm, HBE.out _⟩
    · have E0 := Lib.hid (decide_eq_true e0)
      have E1 := Lib.hid (decide_eq_false e1)
      have EF := Lib.hid (decide_eq_false (show ¬ SameM d f from fun h => e1 h.2.1)).symm
      clear e0 e1
      go_enter Try.func15, Try.ntmps15
      go_wp2_with fail
      refine (equalStr_is a0 b0 d.s0 f.s0 _ RA.out.r0 RB.out.r0 HS.out.n0 KS.out.n0 true E0.out).mono ?_
      rintro e w1 ⟨rfl, q1, rfl⟩
      go_wp2_with fail
      refine (equalStr_is a1 b1 d.s1 f.s1 _ (sl_drewN RA.out.r1 q1) (sl_drewN RB.out.r1 q1) HS.out.n1 KS.out.n1 false E1.out).mono ?_
      rintro e w1 ⟨rfl, q2, rfl⟩
      go_wp2
      go_ret
      exact ⟨ret_bool EF.out, HBE.out _⟩
  · have E0 := Lib.hid (decide_eq_false e0)
    have EF := Lib.hid (decide_eq_false (show ¬ SameM d f from fun h => e0 h.1)).symm
    clear e0
    go_enter Try.func15, Try.ntmps15
    go_wp2_with fail
    refine (equalStr_is a0 b0 d.s0 f.s0 _ RA.out.r0 RB.out.r0 HS.out.n0 KS.out.n0 false E0.out).mono ?_
    rintro e w1 ⟨rfl, q1, rfl⟩
    go_wp2
    go_ret
    exact ⟨ret_bool EF.out, HBE.out _⟩
end Go.Proofs.Ytobjgdnmlibofaa
