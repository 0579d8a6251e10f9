/-
  Pointers written: PtrText, spec's and impl's.
-/
import Derived.Test.YtojjenclcidnkaaDoorPtr
import Derived.Test.YtojjenclcidnkaaDoorSeal
import Derived.Test.YtojjenclcidnkaaDoorDec
import Derived.Test.YtojjenclcidnkaaDoorShelf
import Derived.Test.YtojjenclcidnkaaDoorData
import Derived.Lib.AppendIntMem
import Derived.Lib.ItoaLen
import Derived.WalkSmall
set_option maxRecDepth 100000
namespace Go.Proofs.YtojjenclcidnkaaDoor
open Go.ChangeShapes Go.WideShapes Go.ChangeAt Go.RowKit Go.Proofs.Palim

/-- The bytes of a pointer's text. -/
def ptrL (p : PtrM) : List UInt8 := Lib.itoa p.at_ ++ 46 :: (Lib.itoa p.sum ++ 46 :: Lib.itoa p.birth)
def ptrText (p : PtrM) : ByteArray := if ¬ PtrOkM p then ⟨#[]⟩ else if NullM p then ⟨#[45]⟩ else ⟨(ptrL p).toArray⟩
theorem ret_s {a b : ByteArray} (h : a = b) : Ending.returned (.string a) = Ending.returned (.string b) := by rw [h]
theorem ptr_app (a b c : List UInt8) : ((((⟨a.toArray⟩ : ByteArray) ++ (⟨#[46]⟩ : ByteArray)) ++ (⟨b.toArray⟩ : ByteArray)) ++ (⟨#[46]⟩ : ByteArray)) ++ (⟨c.toArray⟩ : ByteArray) = ⟨(a ++ 46 :: (b ++ 46 :: c)).toArray⟩ := by
  rw [show (⟨#[46]⟩ : ByteArray) = ⟨[46].toArray⟩ from rfl, str_app, str_app, str_app, str_app]
  simp

theorem add_str (a b : ByteArray) (h : a.size + b.size ≤ 9223372036854775807) (w : World) : (Op.stringOp .add a b).run Tryd.prog w = .ok (.string (a ++ b)) w := by
  rw [run_string_add_if, if_neg (by omega)]
theorem decIs (z : Int) (w : World) (h0 : 0 ≤ z) (h1 : z < 9223372036854775807) (t : ByteArray) (ht : (⟨(Lib.itoa z).toArray⟩ : ByteArray) = t) :
    Calls Tryd.prog 18 #[.int .i64 z] w fun e w' => e = .returned (.string t) ∧ Below w.heap.size w w' := ht ▸ l19Dec_int z w h0 h1
theorem itoaIs (z : Int) (w : World) (h0 : 0 ≤ z) (h1 : z < 9223372036854775807) (hp : HasPow w) (t : ByteArray) (ht : (⟨(Lib.itoa z).toArray⟩ : ByteArray) = t) :
    Calls Tryd.prog 32 #[.int .i64 z] w fun e w' => e = .returned (.string t) ∧ Below w.heap.size w w' := by
  subst ht
  refine (Tryd.strconv_Itoa z (by omega) (by omega) w hp).mono ?_
  rintro e w1 ⟨rfl, k, os, hw1⟩
  exact ⟨rfl, by rw [hw1]; exact Lib.below_grow _ _ (Nat.le_refl _) _ _⟩
theorem below_three' {a b c d : World} (h1 : Below a.heap.size a.drew b) (h2 : Below b.heap.size b c) (h3 : Below c.heap.size c d) : Below a.heap.size a d :=
  (((Below.refl _ a).drew.trans h1).trans (h2.mono h1.size)).trans (h3.mono (Nat.le_trans h1.size h2.size))

/-- Three numbers with points between them. -/
def trip (a b c : Int) : List UInt8 := Lib.itoa a ++ 46 :: (Lib.itoa b ++ 46 :: Lib.itoa c)
set_option maxHeartbeats 1000000 in
theorem blkPointed_any (a b c : Int) (w : World) (ha : 0 ≤ a ∧ a < 9223372036854775807) (hb : 0 ≤ b ∧ b < 9223372036854775807) (hc : 0 ≤ c ∧ c < 9223372036854775807) (hp : HasPow w) :
    Calls Tryd.prog 23 #[.int .i64 a, .int .i64 b, .int .i64 c] w fun e w' => e = .returned (.string ⟨(trip a b c).toArray⟩) ∧ Below w.heap.size w w' := by
  have P0 := Lib.hid hp
  clear hp
  have l1 := Lib.itoa_length_le a (by omega) (by omega)
  have l2 := Lib.itoa_length_le b (by omega) (by omega)
  have l3 := Lib.itoa_length_le c (by omega) (by omega)
  obtain ⟨t1, H1⟩ : ∃ t, Hid ((⟨(Lib.itoa a).toArray⟩ : ByteArray) = t) := ⟨_, Lib.hid rfl⟩
  obtain ⟨t2, H2⟩ : ∃ t, Hid ((⟨(Lib.itoa b).toArray⟩ : ByteArray) = t) := ⟨_, Lib.hid rfl⟩
  obtain ⟨t3, H3⟩ : ∃ t, Hid ((⟨(Lib.itoa c).toArray⟩ : ByteArray) = t) := ⟨_, Lib.hid rfl⟩
  have HP := Lib.hid (ptr_app (Lib.itoa a) (Lib.itoa b) (Lib.itoa c))
  rw [H1.out, H2.out, H3.out] at HP
  have HT := Lib.hid (show (⟨(Lib.itoa a ++ 46 :: (Lib.itoa b ++ 46 :: Lib.itoa c)).toArray⟩ : ByteArray) = ⟨(trip a b c).toArray⟩ from rfl)
  have z1 : t1.size ≤ 21 := by rw [← H1.out]; show (Lib.itoa a).toArray.size ≤ 21; simpa using l1
  have z2 : t2.size ≤ 21 := by rw [← H2.out]; show (Lib.itoa b).toArray.size ≤ 21; simpa using l2
  have z3 : t3.size ≤ 21 := by rw [← H3.out]; show (Lib.itoa c).toArray.size ≤ 21; simpa using l3
  have k1 : ∀ w, (Op.stringOp .add t1 (⟨#[46]⟩ : ByteArray)).run Tryd.prog w = .ok (.string (t1 ++ (⟨#[46]⟩ : ByteArray))) w := add_str _ _ (by show t1.size + 1 ≤ _; omega)
  have k2 : ∀ w, (Op.stringOp .add (t1 ++ (⟨#[46]⟩ : ByteArray)) t2).run Tryd.prog w = .ok (.string (t1 ++ (⟨#[46]⟩ : ByteArray) ++ t2)) w := add_str _ _ (by rw [ByteArray.size_append]; show t1.size + 1 + _ ≤ _; omega)
  have k3 : ∀ w, (Op.stringOp .add (t1 ++ (⟨#[46]⟩ : ByteArray) ++ t2) (⟨#[46]⟩ : ByteArray)).run Tryd.prog w = .ok (.string (t1 ++ (⟨#[46]⟩ : ByteArray) ++ t2 ++ (⟨#[46]⟩ : ByteArray))) w := add_str _ _ (by rw [ByteArray.size_append, ByteArray.size_append]; show t1.size + 1 + _ + 1 ≤ _; omega)
  have k4 : ∀ w, (Op.stringOp .add (t1 ++ (⟨#[46]⟩ : ByteArray) ++ t2 ++ (⟨#[46]⟩ : ByteArray)) t3).run Tryd.prog w = .ok (.string (t1 ++ (⟨#[46]⟩ : ByteArray) ++ t2 ++ (⟨#[46]⟩ : ByteArray) ++ t3)) w := add_str _ _ (by rw [ByteArray.size_append, ByteArray.size_append, ByteArray.size_append]; show t1.size + 1 + _ + 1 + _ ≤ _; omega)
  clear l1 l2 l3
  go_enter Tryd.func23, Tryd.ntmps23
  go_wp2_with fail
  refine (itoaIs a _ ha.1 ha.2 P0.out t1 H1.out).mono ?_
  rintro e w1 ⟨rfl, hb1⟩
  have P1 := Lib.hid (P0.out.below hb1 P0.out.lt)
  go_wp2_with fail
  refine (itoaIs b _ hb.1 hb.2 P1.out t2 H2.out).mono ?_
  rintro e w2 ⟨rfl, hb2⟩
  have P2 := Lib.hid (P1.out.below hb2 P1.out.lt)
  go_wp2_with fail
  refine (itoaIs c _ hc.1 hc.2 P2.out t3 H3.out).mono ?_
  rintro e w3 ⟨rfl, hb3⟩
  have B3 := Lib.hid ((hb1.trans (hb2.mono hb1.size)).trans (hb3.mono (Nat.le_trans hb1.size hb2.size)))
  clear hb1 hb2 hb3 P1 P2
  go_wp2
  go_ret
  exact ⟨ret_s (HP.out.trans HT.out), B3.out⟩
theorem blkPointed_is (a b c : Int) (w : World) (ha : 0 ≤ a ∧ a < 9223372036854775807) (hb : 0 ≤ b ∧ b < 9223372036854775807) (hc : 0 ≤ c ∧ c < 9223372036854775807) (hp : HasPow w) (t : ByteArray) (ht : (⟨(trip a b c).toArray⟩ : ByteArray) = t) :
    Calls Tryd.prog 23 #[.int .i64 a, .int .i64 b, .int .i64 c] w fun e w' => e = .returned (.string t) ∧ Below w.heap.size w w' := ht ▸ blkPointed_any a b c w ha hb hc hp

end Go.Proofs.YtojjenclcidnkaaDoor
