/-
  The law on BookName, walked.
-/
import Derived.Test.YtpinjdmjfbmigaaBookName
set_option maxRecDepth 100000
namespace Go.Proofs.Ytpinjdmjfbmigaa
open Go.ChangeShapes Go.WideShapes Go.ChangeAt Go.RowKit Go.Proofs.Palim

set_option maxHeartbeats 1000000 in
theorem lawBookName (s : ByteArray) (w : World) (hs : s.size ≤ maxLen) :
    Calls Try.prog 4 #[.string s] w fun e w' => e = .returned (.bool true) ∧ Below w.heap.size w w' := by
  have HS := Lib.hid hs
  unfold maxLen at hs
  by_cases hbig : (s.size : Int) > 1048576
  · go_enter Try.func4, Try.ntmps4
    go_wp2_with fail
    go_ret
    exact ⟨rfl, Below.refl _ _⟩
  · go_enter Try.func4, Try.ntmps4
    go_wp2_with fail
    refine (BookName_any s _ HS.out).mono ?_
    rintro e w1 ⟨rfl, rfl⟩
    obtain ⟨ok, HOK⟩ : ∃ ok, Hid (decide (NameOk s) = ok) := ⟨_, Lib.hid rfl⟩
    rw [HOK.out]
    go_wp2_with fail
    refine (ImplBookName_any s _ HS.out).mono ?_
    rintro e w2 ⟨rfl, rfl⟩
    rw [HOK.out]
    have hself : (Op.binOp .neq 4 (.const (.bool ok)) (.const (.bool ok)) 4) = (Op.binOp .neq 4 (.const (.bool ok)) (.const (.bool ok)) 4) := rfl
    clear hself
    cases ok
    all_goals
      go_wp2
      go_ret
      exact ⟨rfl, Below.refl _ _⟩
end Go.Proofs.Ytpinjdmjfbmigaa
