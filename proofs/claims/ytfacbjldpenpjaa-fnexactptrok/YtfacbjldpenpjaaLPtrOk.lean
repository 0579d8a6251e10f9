/-
  The law on PtrOk, walked.
-/
import Derived.Test.YtfacbjldpenpjaaPtr
import Derived.Test.YtfacbjldpenpjaaDiskLaw
set_option maxRecDepth 100000
namespace Go.Proofs.Ytfacbjldpenpjaa
open Go.ChangeShapes Go.WideShapes Go.ChangeAt Go.RowKit Go.Proofs.Palim

set_option maxHeartbeats 400000 in
theorem lawPtrOk (p : PtrM) (w : World) :
    Calls Try.prog 4 #[pv p] w fun e w' => e = .returned (.bool true) ∧ Below w.heap.size w w' := by
  obtain ⟨ok, HOK⟩ : ∃ ok, Hid (decide (PtrOkM p) = ok) := ⟨_, Lib.hid rfl⟩
  have X0 := Lib.hid (box_new w #[.int .i64 p.at_, .int .i64 p.sum, .int .i64 p.birth] 38)
  have B0 := Lib.hid (Below.new (w := w) (.cells #[.int .i64 p.at_, .int .i64 p.sum, .int .i64 p.birth] 38))
  go_enter Try.func4, Try.ntmps4
  go_wp2_with fail
  refine (toPtr_any p _).mono ?_
  rintro e w1 ⟨rfl, hb⟩
  have X1 := Lib.hid (X0.out.below hb X0.out.lt)
  have B1 := Lib.hid (B0.out.trans (hb.mono B0.out.size))
  clear hb X0 B0
  go_wp2_with fail
  refine (specPtrOk_is p _ ok HOK.out).mono ?_
  rintro e w2 ⟨rfl, hb⟩
  have X2 := Lib.hid (X1.out.below hb X1.out.lt)
  have B2 := Lib.hid (B1.out.trans (hb.mono B1.out.size))
  clear hb X1 B1
  obtain ⟨x0, x1, x2⟩ := X2.out.three
  go_wp2_with fail
  refine (toPtr_any p _).mono ?_
  rintro e w3 ⟨rfl, hb⟩
  have B3 := Lib.hid (B2.out.trans (hb.mono B2.out.size))
  clear hb X2 B2 x0 x1 x2
  go_wp2_with fail
  refine (implPtrOk_is p _ ok HOK.out).mono ?_
  rintro e w4 ⟨rfl, hb⟩
  have B4 := Lib.hid (B3.out.trans (hb.mono B3.out.size))
  clear hb B3
  go_wp2
  go_ret
  exact ⟨rfl, B4.out⟩
end Go.Proofs.Ytfacbjldpenpjaa
