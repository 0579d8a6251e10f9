/-
  The law on DdtText, walked.
-/
import Derived.Test.YtoeaeckkmpdpiaaDoorDdtS
import Derived.Test.YtoeaeckkmpdpiaaDoorDiskLaw
import Derived.Test.YtoeaeckkmpdpiaaDoorDdtTI
set_option maxRecDepth 100000
namespace Go.Proofs.YtoeaeckkmpdpiaaDoor
open Go.ChangeShapes Go.WideShapes Go.ChangeAt Go.RowKit Go.Proofs.Palim

set_option maxHeartbeats 1000000 in
theorem lawDdtText (v : Value) (ls : List EntM) (w : World) (h : Sl w 3 v ls.length (ecs ls)) (hv : Low w.heap.size v) (hp : HasPow w) :
    Calls Tryd.prog 5 #[v] w fun e w' => e = .returned (.bool true) ∧ Below w.heap.size w w' := by
  have hnot : ∀ (x : Bool) (w : World), (Op.unary .not (.bool x)).run Tryd.prog w = .ok (.bool (!x)) w := fun _ _ => rfl
  obtain ⟨R, HOK⟩ : ∃ R, Hid (ddtText ls = R) := ⟨_, Lib.hid rfl⟩
  have HD := Lib.hid h
  have HV := Lib.hid hv
  have hnm := h.le
  unfold maxLen at hnm
  obtain ⟨_, A, c, rfl, _, _, _⟩ := h
  clear hv
  obtain ⟨n, HN⟩ : ∃ n, Hid (ls.length = n) := ⟨_, Lib.hid rfl⟩
  rw [HN.out] at HD HV hnm ⊢
  go_enter Tryd.func5, Tryd.ntmps5
  go_wp2_with fail
  refine (szDdtEntryS_any _ n _ 1048576 _ HD.out (by omega) (by omega)).mono ?_
  rintro e w1 ⟨rfl, hb⟩
  have B1 := Lib.hid hb
  clear hb
  by_cases hbig : (1048576 : Int) < n
  · rw [if_pos hbig]
    go_wp2
    go_ret
    exact ⟨rfl, B1.out⟩
  rw [if_neg hbig]
  have hs : n ≤ 1048576 := by omega
  have hr2 : ¬ (1048576 - (n : Int) < 0) := by omega
  have HD1 := Lib.hid (show Sl w1 3 _ ls.length (ecs ls) from by rw [HN.out]; exact HD.out.below B1.out (fun b e => HV.out b e))
  have HV1 := Lib.hid (fun b e => Nat.lt_of_lt_of_le (HV.out b e) B1.out.size)
  clear HD
  go_wp2_with fail
  refine (toDdtEntryS_any _ ls _ HD1.out HV1.out (by rw [HN.out]; exact hs)).mono ?_
  rintro e w2 ⟨va, rfl, hoa, hb⟩
  have HA := Lib.hid (sl_of_own hoa)
  have HAV := Lib.hid (fun b e => (hoa.lt b e).2)
  have HD2 := Lib.hid (HD1.out.below hb HV1.out)
  have B2 := Lib.hid (B1.out.trans (hb.mono B1.out.size))
  have HV2 := Lib.hid (fun b e => Nat.lt_of_lt_of_le (HV1.out b e) hb.size)
  clear hb hoa HD1 HV1 B1
  go_wp2_with fail
  refine (SpecDdtText_is _ ls R _ HA.out HAV.out HOK.out).mono ?_
  rintro e w3 ⟨rfl, hb⟩
  have HD3 := Lib.hid (HD2.out.below hb HV2.out)
  have B3 := Lib.hid (B2.out.trans (hb.mono B2.out.size))
  have HV3 := Lib.hid (fun b e => Nat.lt_of_lt_of_le (HV2.out b e) hb.size)
  clear hb HD2 HV2 B2 HA HAV
  go_wp2_with fail
  refine (toDdtEntryS_any _ ls _ HD3.out HV3.out (by rw [HN.out]; exact hs)).mono ?_
  rintro e w4 ⟨va, rfl, hoa, hb⟩
  have HA := Lib.hid (sl_of_own hoa)
  have HAV := Lib.hid (fun b e => (hoa.lt b e).2)
  have HD4 := Lib.hid (HD3.out.below hb HV3.out)
  have B4 := Lib.hid (B3.out.trans (hb.mono B3.out.size))
  have HV4 := Lib.hid (fun b e => Nat.lt_of_lt_of_le (HV3.out b e) hb.size)
  obtain ⟨_, A4, c4, rfl, _, _, _⟩ := sl_of_own hoa
  clear hb hoa HD3 HV3 B3
  go_wp2_with fail
  refine (ImplDdtText_is _ ls R _ HA.out HAV.out (hp.below B4.out hp.lt) HOK.out).mono ?_
  rintro e w5 ⟨rfl, hb⟩
  have HD5 := Lib.hid (HD4.out.below hb HV4.out)
  have HA5 := Lib.hid (HA.out.below hb HAV.out)
  have B5 := Lib.hid (B4.out.trans (hb.mono B4.out.size))
  have HV5 := Lib.hid (fun b e => Nat.lt_of_lt_of_le (HV4.out b e) hb.size)
  have HAV5 := Lib.hid (fun b e => Nat.lt_of_lt_of_le (HAV.out b e) hb.size)
  clear hb HD4 HV4 B4 HA HAV
  go_wp2_with fail
  refine (toDdtEntryS_any _ ls _ HD5.out HV5.out (by rw [HN.out]; exact hs)).mono ?_
  rintro e w6 ⟨vb, rfl, hob, hb⟩
  have HB := Lib.hid (sl_of_own hob)
  have HBV := Lib.hid (fun b e => (hob.lt b e).2)
  have HA6 := Lib.hid (HA5.out.below hb HAV5.out)
  have B6 := Lib.hid (B5.out.trans (hb.mono B5.out.size))
  have HAV6 := Lib.hid (fun b e => Nat.lt_of_lt_of_le (HAV5.out b e) hb.size)
  obtain ⟨_, A6, c6, rfl, _, _, _⟩ := sl_of_own hob
  clear hb hob HD5 HV5 B5 HA5 HAV5
  go_wp2_with fail
  refine (eqDdtEntryS_same _ _ ls _ HA6.out HB.out HAV6.out HBV.out (by rw [HN.out]; exact hs)).mono ?_
  rintro e w7 ⟨rfl, hb⟩
  have B7 := Lib.hid (B6.out.trans (hb.mono B6.out.size))
  clear hb B6
  go_wp2
  go_ret
  exact ⟨rfl, B7.out⟩
end Go.Proofs.YtoeaeckkmpdpiaaDoor
