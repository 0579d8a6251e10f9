/-
  Sealing a text: its checksum in decimals, a colon, the text; of the program and of the document.
-/
import Derived.Test.YtgjlhokakcdpbaaDoorSumWalk
import Derived.Test.YtgjlhokakcdpbaaDoorDec
import Derived.Test.YtgjlhokakcdpbaaDoorShelf
import Derived.WalkKit
import Derived.ProofKit
import Derived.Lib.Hide
import Derived.Lib.AppendIntMem
import Derived.WalkSpells
import Derived.WalkSmall
set_option maxRecDepth 100000
namespace Go.Proofs.YtgjlhokakcdpbaaDoor
open Go.ChangeShapes Go.WideShapes Go.ChangeAt Go.RowKit Go.Proofs.Palim

/-- What a text is sealed as. -/
def sealB (s : ByteArray) : ByteArray := if 400 < s.size then ⟨#[]⟩ else ⟨(Lib.itoa (sumOf s) ++ 58 :: s.data.toList).toArray⟩
def SealPost (s : ByteArray) (w : World) (e : Ending) (w' : World) : Prop := e = .returned (.string (sealB s)) ∧ Below w.heap.size w w'
/-- The table of powers of ten that the library's numerals read. -/
def HasPow (w : World) : Prop := Lib.TabIs Tryd.prog w "internal/strconv.uint64pow10" .u64 Lib.pow10Tab
theorem gPow : Tryd.prog.globalNamed "internal/strconv.uint64pow10" = some 1 := by kernel_rfl
theorem HasPow.lt {w : World} (h : HasPow w) : 1 < w.heap.size := by
  unfold HasPow Lib.TabIs World.var? at h
  rw [gPow] at h
  simp only [Option.bind_some] at h
  rcases Nat.lt_or_ge 1 w.heap.size with hl | hl
  · exact hl
  · rw [Array.getElem?_eq_none hl] at h; cases h
theorem HasPow.below {w w' : World} {B : Nat} (h : HasPow w) (hb : Below B w w') (hB : 1 < B) : HasPow w' := var?_below hb gPow hB h
theorem seal_text (s : ByteArray) (h : ¬ 400 < s.size) : (⟨(Lib.itoa (sumOf s)).toArray⟩ : ByteArray) ++ (⟨#[58]⟩ : ByteArray) ++ s = sealB s := by
  unfold sealB
  rw [if_neg h]
  conv => lhs; rw [← str_of s]
  rw [show (⟨#[58]⟩ : ByteArray) = ⟨[58].toArray⟩ from rfl, str_app, str_app]
  simp

set_option maxHeartbeats 400000 in
theorem implSeal_any (s : ByteArray) (w : World) (hs : s.size ≤ maxLen) (hp : HasPow w) :
    Calls Tryd.prog 19 #[.string s] w (SealPost s w) := by
  by_cases hl : 400 < s.size
  · have HE := Lib.hid (show sealB s = ⟨#[]⟩ from by unfold sealB; rw [if_pos hl])
    unfold maxLen at hs
    go_enter Tryd.func19, Tryd.ntmps19
    go_wp2
    go_ret
    exact ⟨by rw [HE.out]; rfl, Below.refl _ _⟩
  · have hbd := sumOf_bd s
    have hil := Lib.itoa_length_le (sumOf s) (by omega) (by omega)
    have hs4 : s.size ≤ 400 := by omega
    have HE := Lib.hid (seal_text s hl)
    go_enter Tryd.func19, Tryd.ntmps19
    go_wp2_with fail
    refine (implSumOf_any _ _ hs).mono ?_
    rintro e w' ⟨rfl, rfl⟩
    go_wp2_with fail
    refine (Tryd.strconv_Itoa _ (by omega) (by omega) _ hp).mono ?_
    rintro e w1 ⟨rfl, k, os, hw1⟩
    have hb : Below w.heap.size w w1 := by rw [hw1]; exact Lib.below_grow _ _ (Nat.le_refl _) _ _
    clear hw1
    go_wp2
    go_ret
    exact ⟨by rw [← HE.out]; rfl, hb⟩

set_option maxHeartbeats 400000 in
theorem specSeal_any (s : ByteArray) (w : World) (hs : s.size ≤ maxLen) :
    Calls Tryd.prog 16 #[.string s] w (SealPost s w) := by
  by_cases hl : 400 < s.size
  · have HE := Lib.hid (show sealB s = ⟨#[]⟩ from by unfold sealB; rw [if_pos hl])
    unfold maxLen at hs
    go_enter Tryd.func16, Tryd.ntmps16
    go_wp2
    go_ret
    exact ⟨by rw [HE.out]; rfl, Below.refl _ _⟩
  · have hbd := sumOf_bd s
    have hil := Lib.itoa_length_le (sumOf s) (by omega) (by omega)
    have hs4 : s.size ≤ 400 := by omega
    have HE := Lib.hid (seal_text s hl)
    go_enter Tryd.func16, Tryd.ntmps16
    go_wp2_with fail
    refine (specSumOf_any _ _ hs).mono ?_
    rintro e w' ⟨rfl, rfl⟩
    go_wp2_with fail
    refine (l19Dec_int _ _ (by omega) (by omega)).mono ?_
    rintro e w1 ⟨rfl, hb⟩
    go_wp2
    go_ret
    exact ⟨by rw [← HE.out]; rfl, hb⟩
end Go.Proofs.YtgjlhokakcdpbaaDoor
