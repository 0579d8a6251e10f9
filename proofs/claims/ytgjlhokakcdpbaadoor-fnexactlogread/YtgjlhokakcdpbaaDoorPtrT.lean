/-
  Pointers written: PtrText, spec's and impl's.
-/
import Derived.Test.YtgjlhokakcdpbaaDoorPtr
import Derived.Test.YtgjlhokakcdpbaaDoorSeal
import Derived.Test.YtgjlhokakcdpbaaDoorDec
import Derived.Test.YtgjlhokakcdpbaaDoorShelf
import Derived.Test.YtgjlhokakcdpbaaDoorBase
import Derived.Lib.AppendIntMem
import Derived.Lib.ItoaLen
import Derived.WalkSmall
set_option maxRecDepth 100000
namespace Go.Proofs.YtgjlhokakcdpbaaDoor
open Go.ChangeShapes Go.WideShapes Go.ChangeAt Go.RowKit Go.Proofs.Palim

/-- The bytes of a pointer's text. -/
def ptrL (p : PtrM) : List UInt8 := Lib.itoa p.at_ ++ 46 :: (Lib.itoa p.sum ++ 46 :: Lib.itoa p.birth)
def ptrText (p : PtrM) : ByteArray := if ¬ PtrOkM p then ⟨#[]⟩ else if NullM p then ⟨#[45]⟩ else ⟨(ptrL p).toArray⟩
theorem ret_s {a b : ByteArray} (h : a = b) : Ending.returned (.string a) = Ending.returned (.string b) := by rw [h]
theorem ptr_app (a b c : List UInt8) : ((((⟨a.toArray⟩ : ByteArray) ++ (⟨#[46]⟩ : ByteArray)) ++ (⟨b.toArray⟩ : ByteArray)) ++ (⟨#[46]⟩ : ByteArray)) ++ (⟨c.toArray⟩ : ByteArray) = ⟨(a ++ 46 :: (b ++ 46 :: c)).toArray⟩ := by
  rw [show (⟨#[46]⟩ : ByteArray) = ⟨[46].toArray⟩ from rfl, str_app, str_app, str_app, str_app]
  simp

theorem add_str (a b : ByteArray) (h : a.size + b.size ≤ 9223372036854775807) (w : World) : (Op.stringOp .add a b).run Tryd.prog w = .ok (.string (a ++ b)) w := by
  rw [run_string_add_if, if_neg (by omega)]
theorem decIs (z : Int) (w : World) (h0 : 0 ≤ z) (h1 : z < 9223372036854775807) (t : ByteArray) (ht : (⟨(Lib.itoa z).toArray⟩ : ByteArray) = t) :
    Calls Tryd.prog 15 #[.int .i64 z] w fun e w' => e = .returned (.string t) ∧ Below w.heap.size w w' := ht ▸ l19Dec_int z w h0 h1
theorem itoaIs (z : Int) (w : World) (h0 : 0 ≤ z) (h1 : z < 9223372036854775807) (hp : HasPow w) (t : ByteArray) (ht : (⟨(Lib.itoa z).toArray⟩ : ByteArray) = t) :
    Calls Tryd.prog 30 #[.int .i64 z] w fun e w' => e = .returned (.string t) ∧ Below w.heap.size w w' := by
  subst ht
  refine (Tryd.strconv_Itoa z (by omega) (by omega) w hp).mono ?_
  rintro e w1 ⟨rfl, k, os, hw1⟩
  exact ⟨rfl, by rw [hw1]; exact Lib.below_grow _ _ (Nat.le_refl _) _ _⟩
theorem below_three' {a b c d : World} (h1 : Below a.heap.size a.drew b) (h2 : Below b.heap.size b c) (h3 : Below c.heap.size c d) : Below a.heap.size a d :=
  (((Below.refl _ a).drew.trans h1).trans (h2.mono h1.size)).trans (h3.mono (Nat.le_trans h1.size h2.size))

/-- Three numbers with points between them. -/
def trip (a b c : Int) : List UInt8 := Lib.itoa a ++ 46 :: (Lib.itoa b ++ 46 :: Lib.itoa c)
end Go.Proofs.YtgjlhokakcdpbaaDoor
