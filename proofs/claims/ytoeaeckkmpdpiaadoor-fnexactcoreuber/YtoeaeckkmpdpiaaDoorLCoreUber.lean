/-
  The law on CoreUber, walked.
-/
import Derived.Test.YtoeaeckkmpdpiaaDoorCoreUb
set_option maxRecDepth 100000
namespace Go.Proofs.YtoeaeckkmpdpiaaDoor
open Go.ChangeShapes Go.WideShapes Go.ChangeAt Go.RowKit Go.Proofs.Palim

set_option maxHeartbeats 400000 in
theorem lawCoreUber (z : Int) (p : PtrM) (w : World) (hz : -9223372036854775808 ≤ z ∧ z ≤ 9223372036854775807) (hp : HasPow w) :
    Calls Tryd.prog 7 #[.int .i64 z, pv p] w fun e w' => e = .returned (.bool true) ∧ Below w.heap.size w w' := by
  obtain ⟨tx, HTX⟩ : ∃ tx, Hid (uberText z p = tx) := ⟨_, Lib.hid rfl⟩
  have hg := hp.lt
  have HZ := Lib.hid hz
  have X0 := Lib.hid (box_new w #[.int .i64 p.at_, .int .i64 p.sum, .int .i64 p.birth] 48)
  have B0 := Lib.hid (Below.new (w := w) (.cells #[.int .i64 p.at_, .int .i64 p.sum, .int .i64 p.birth] 48))
  clear hz
  go_enter Tryd.func7, Tryd.ntmps7
  go_wp2_with fail
  refine (toPtr_any p _).mono ?_
  rintro e w1 ⟨rfl, hb⟩
  have X1 := Lib.hid (X0.out.below hb X0.out.lt)
  have B1 := Lib.hid (B0.out.trans (hb.mono B0.out.size))
  clear hb X0 B0
  go_wp2_with fail
  refine (specUber_is z p tx _ HZ.out HTX.out).mono ?_
  rintro e w2 ⟨rfl, hb⟩
  have X2 := Lib.hid (X1.out.below hb X1.out.lt)
  have B2 := Lib.hid (B1.out.trans (hb.mono B1.out.size))
  clear hb X1 B1
  obtain ⟨x0, x1, x2⟩ := X2.out.three
  go_wp2_with fail
  refine (toPtr_any p _).mono ?_
  rintro e w3 ⟨rfl, hb⟩
  have B3 := Lib.hid (B2.out.trans (hb.mono B2.out.size))
  clear hb X2 B2 x0 x1 x2
  go_wp2_with fail
  refine (implUber_is z p tx _ HZ.out (hp.below B3.out hg) HTX.out).mono ?_
  rintro e w4 ⟨rfl, hb⟩
  have B4 := Lib.hid (B3.out.trans (hb.mono B3.out.size))
  clear hb B3
  go_wp2
  go_ret
  exact ⟨rfl, B4.out⟩
end Go.Proofs.YtoeaeckkmpdpiaaDoor
