/-
  Sealing a text: its checksum in decimals, a colon, the text; of the program and of the document.
-/
import Derived.Test.YtojjenclcidnkaaDoorRows
import Derived.Test.YtojjenclcidnkaaDoorSum
import Derived.Test.YtojjenclcidnkaaDoorDec
import Derived.Test.YtojjenclcidnkaaDoorShelf
import Derived.WalkKit
import Derived.ProofKit
import Derived.Lib.Hide
import Derived.Lib.AppendIntMem
import Derived.WalkSpells
import Derived.WalkSmall
set_option maxRecDepth 100000
namespace Go.Proofs.YtojjenclcidnkaaDoor
open Go.ChangeShapes Go.WideShapes Go.ChangeAt Go.RowKit Go.Proofs.Palim

/-- What a text is sealed as. -/
def sealB (s : ByteArray) : ByteArray := if 400 < s.size then ⟨#[]⟩ else ⟨(Lib.itoa (sumOf s) ++ 58 :: s.data.toList).toArray⟩
def SealPost (s : ByteArray) (w : World) (e : Ending) (w' : World) : Prop := e = .returned (.string (sealB s)) ∧ Below w.heap.size w w'
/-- The table of powers of ten that the library's numerals read. -/
def HasPow (w : World) : Prop := Lib.TabIs Tryd.prog w "internal/strconv.uint64pow10" .u64 Lib.pow10Tab
theorem gPow : Tryd.prog.globalNamed "internal/strconv.uint64pow10" = some 5 := by kernel_rfl
theorem HasPow.lt {w : World} (h : HasPow w) : 5 < w.heap.size := by
  unfold HasPow Lib.TabIs World.var? at h
  rw [gPow] at h
  simp only [Option.bind_some] at h
  rcases Nat.lt_or_ge 5 w.heap.size with hl | hl
  · exact hl
  · rw [Array.getElem?_eq_none hl] at h; cases h
theorem HasPow.below {w w' : World} {B : Nat} (h : HasPow w) (hb : Below B w w') (hB : 5 < B) : HasPow w' := var?_below hb gPow hB h
theorem seal_text (s : ByteArray) (h : ¬ 400 < s.size) : (⟨(Lib.itoa (sumOf s)).toArray⟩ : ByteArray) ++ (⟨#[58]⟩ : ByteArray) ++ s = sealB s := by
  unfold sealB
  rw [if_neg h]
  conv => lhs; rw [← str_of s]
  rw [show (⟨#[58]⟩ : ByteArray) = ⟨[58].toArray⟩ from rfl, str_app, str_app]
  simp

end Go.Proofs.YtojjenclcidnkaaDoor
