/-
  The law on BlkTo, walked.
-/
import Derived.Test.YtfacbjldpenpjaaPtrTo
set_option maxRecDepth 100000
namespace Go.Proofs.Ytfacbjldpenpjaa
open Go.ChangeShapes Go.WideShapes Go.ChangeAt Go.RowKit Go.Proofs.Palim

set_option maxHeartbeats 400000 in
theorem lawBlkTo (at_ : Int) (text : ByteArray) (birth : Int) (w : World) (ht : text.size ≤ maxLen) :
    Calls Try.prog 5 #[.int .i64 at_, .string text, .int .i64 birth] w fun e w' => e = .returned (.bool true) ∧ Below w.heap.size w w' := by
  have hnot : ∀ (x : Bool) (w : World), (Op.unary .not (.bool x)).run Try.prog w = .ok (.bool (!x)) w := fun _ _ => rfl
  by_cases hlong : 1048576 < text.size
  · unfold maxLen at ht
    go_enter Try.func5, Try.ntmps5
    go_wp2
    go_ret
    exact ⟨rfl, Below.refl _ _⟩
  obtain ⟨r, HR⟩ : ∃ r, Hid (toM at_ text birth = r) := ⟨_, Lib.hid rfl⟩
  go_enter Try.func5, Try.ntmps5
  go_wp2_with fail
  refine (specBlkTo_any at_ text birth _ ht).mono ?_
  rintro e w1 ⟨rfl, hb⟩
  rw [HR.out]
  have hn := Below.new (w := w1) (.cells #[.int .i64 r.at_, .int .i64 r.sum, .int .i64 r.birth] 40)
  have X1 := Lib.hid (box_new w1 #[.int .i64 r.at_, .int .i64 r.sum, .int .i64 r.birth] 40)
  have B1 := Lib.hid (hb.trans (hn.mono hb.size))
  have hs1 := hb.size
  clear hb hn
  go_wp2_with fail
  refine (implBlkTo_any at_ text birth _ ht).mono ?_
  rintro e w2 ⟨rfl, hb⟩
  rw [HR.out]
  have hn := Below.new (w := w2) (.cells #[.int .i64 r.at_, .int .i64 r.sum, .int .i64 r.birth] 40)
  have X2 := Lib.hid ((X1.out.below hb X1.out.lt).below hn (X1.out.below hb X1.out.lt).lt)
  have hs2 := (X1.out.below hb X1.out.lt).lt
  have B2 := Lib.hid ((B1.out.trans (hb.mono B1.out.size)).trans (hn.mono (Nat.le_trans B1.out.size hb.size)))
  clear hb hn X1 B1
  obtain ⟨x0, x1, x2⟩ := X2.out.three
  go_wp2_with fail
  refine (eqPtr_same r _).mono ?_
  rintro e w3 ⟨rfl, hb⟩
  have B3 := Lib.hid (B2.out.trans (hb.mono B2.out.size))
  go_wp2
  go_ret
  exact ⟨rfl, B3.out⟩
end Go.Proofs.Ytfacbjldpenpjaa
