/-
  A pointer at a text: BlkTo, spec's and impl's.
-/
import Derived.Test.YtojjenclcidnkaaDoorPtr
import Derived.Test.YtojjenclcidnkaaDoorRows
import Derived.Test.YtojjenclcidnkaaDoorSum
import Derived.Test.YtojjenclcidnkaaDoorData
set_option maxRecDepth 100000
namespace Go.Proofs.YtojjenclcidnkaaDoor
open Go.ChangeShapes Go.WideShapes Go.ChangeAt Go.RowKit Go.Proofs.Palim

def noPtr : PtrM := ⟨0, 0, 0⟩
/-- The pointer at a text. -/
def toM (at_ : Int) (text : ByteArray) (birth : Int) : PtrM := if PtrOkM ⟨at_, sumOf text, birth⟩ then ⟨at_, sumOf text, birth⟩ else noPtr

theorem ret_p {p q : PtrM} (h : p = q) : Ending.returned (pv p) = Ending.returned (pv q) := by rw [h]

end Go.Proofs.YtojjenclcidnkaaDoor
