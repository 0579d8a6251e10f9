/-
  CoreUber of both sides.
-/
import Derived.Test.YthcfiobnnceomaaDoorCoreU
set_option maxRecDepth 100000
namespace Go.Proofs.YthcfiobnnceomaaDoor
open Go.ChangeShapes Go.WideShapes Go.ChangeAt Go.RowKit Go.Proofs.Palim

/-- The ring's word before it is sealed. -/
def uberB (z : Int) (p : PtrM) : ByteArray := (⟨(Lib.itoa z).toArray⟩ : ByteArray) ++ (⟨#[32]⟩ : ByteArray) ++ ptrText p ++ (⟨#[32]⟩ : ByteArray) ++ (⟨(Lib.itoa z).toArray⟩ : ByteArray)
def UberOk (z : Int) (p : PtrM) : Prop := 1 ≤ z ∧ z ≤ 1000000 ∧ GoodM p
instance (z : Int) (p : PtrM) : Decidable (UberOk z p) := by unfold UberOk; infer_instance
def uberText (z : Int) (p : PtrM) : ByteArray := if UberOk z p then sealB (uberB z p) else ⟨#[]⟩
theorem ptrText_bd (p : PtrM) (h : GoodM p) : (ptrText p).size ≤ 65 := by
  obtain ⟨h1, h2, h3, h4, h5, h6⟩ := id h
  have l1 := Lib.itoa_length_le p.at_ (by omega) (by omega)
  have l2 := Lib.itoa_length_le p.sum (by omega) (by omega)
  have l3 := Lib.itoa_length_le p.birth (by omega) (by omega)
  have hk : ¬ NullM p := fun c => by have := c.1; omega
  unfold ptrText
  rw [if_neg (not_not_intro (show PtrOkM p from Or.inr h)), if_neg hk]
  show (ptrL p).toArray.size ≤ 65
  simp [ptrL]
  omega
theorem specPtrText_is (p : PtrM) (t : ByteArray) (w : World) (ht : ptrText p = t) :
    Calls Tryd.prog 22 #[pv p] w fun e w' => e = .returned (.string t) ∧ Below w.heap.size w w' := ht ▸ specPtrText_any p w
theorem implPtrText_is (p : PtrM) (t : ByteArray) (w : World) (hp : HasPow w) (ht : ptrText p = t) :
    Calls Tryd.prog 31 #[pv p] w fun e w' => e = .returned (.string t) ∧ Below w.heap.size w w' := ht ▸ implPtrText_any p w hp
theorem sl_strs (w : World) (ss : List ByteArray) (e : Nat) (n : Nat) (hn : ss.length = n) (hm : n ≤ 1000) : Sl (w.alloc (.cells (scs ss).toArray e)) 1 (.slice (some ⟨w.heap.size, 0, none⟩) n n) ss.length (scs ss) := by
  subst hn
  refine ⟨by rw [scs_length, Nat.mul_one], _, _, rfl, Nat.le_refl _, by unfold maxLen; omega, Or.inr ⟨w.heap.size, 0, rfl, fun j u hu => ?_⟩⟩
  have := (box_new w (scs ss).toArray e).cell j (by simpa using hu)
  rwa [Nat.zero_add]
theorem joinB_three (a b c sep : ByteArray) : joinB [a, b, c] sep = a ++ sep ++ b ++ sep ++ c := by
  have h1 := joinB_snoc [a, b] c sep
  have h2 := joinB_snoc [a] b sep
  rw [if_neg (by simp)] at h1 h2
  simp only [List.cons_append, List.nil_append] at h1 h2
  rw [h1, h2, joinB_one]

end Go.Proofs.YthcfiobnnceomaaDoor
