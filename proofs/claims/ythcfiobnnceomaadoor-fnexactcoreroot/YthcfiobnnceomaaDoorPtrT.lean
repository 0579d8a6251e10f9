/-
  Pointers written: PtrText, spec's and impl's.
-/
import Derived.Test.YthcfiobnnceomaaDoorBase
import Derived.Test.YthcfiobnnceomaaDoorSeal
import Derived.Test.YthcfiobnnceomaaDoorDec
import Derived.Test.YthcfiobnnceomaaDoorShelf
import Derived.Test.YthcfiobnnceomaaDoorDiskLaw
import Derived.Lib.AppendIntMem
import Derived.Lib.ItoaLen
import Derived.WalkSmall
set_option maxRecDepth 100000
namespace Go.Proofs.YthcfiobnnceomaaDoor
open Go.ChangeShapes Go.WideShapes Go.ChangeAt Go.RowKit Go.Proofs.Palim

/-- The bytes of a pointer's text. -/
def ptrL (p : PtrM) : List UInt8 := Lib.itoa p.at_ ++ 46 :: (Lib.itoa p.sum ++ 46 :: Lib.itoa p.birth)
def ptrText (p : PtrM) : ByteArray := if ¬ PtrOkM p then ⟨#[]⟩ else if NullM p then ⟨#[45]⟩ else ⟨(ptrL p).toArray⟩
theorem ret_s {a b : ByteArray} (h : a = b) : Ending.returned (.string a) = Ending.returned (.string b) := by rw [h]
theorem ptr_app (a b c : List UInt8) : ((((⟨a.toArray⟩ : ByteArray) ++ (⟨#[46]⟩ : ByteArray)) ++ (⟨b.toArray⟩ : ByteArray)) ++ (⟨#[46]⟩ : ByteArray)) ++ (⟨c.toArray⟩ : ByteArray) = ⟨(a ++ 46 :: (b ++ 46 :: c)).toArray⟩ := by
  rw [show (⟨#[46]⟩ : ByteArray) = ⟨[46].toArray⟩ from rfl, str_app, str_app, str_app, str_app]
  simp

theorem add_str (a b : ByteArray) (h : a.size + b.size ≤ 9223372036854775807) (w : World) : (Op.stringOp .add a b).run Tryd.prog w = .ok (.string (a ++ b)) w := by
  rw [run_string_add_if, if_neg (by omega)]
theorem decIs (z : Int) (w : World) (h0 : 0 ≤ z) (h1 : z < 9223372036854775807) (t : ByteArray) (ht : (⟨(Lib.itoa z).toArray⟩ : ByteArray) = t) :
    Calls Tryd.prog 20 #[.int .i64 z] w fun e w' => e = .returned (.string t) ∧ Below w.heap.size w w' := ht ▸ l19Dec_int z w h0 h1
theorem itoaIs (z : Int) (w : World) (h0 : 0 ≤ z) (h1 : z < 9223372036854775807) (hp : HasPow w) (t : ByteArray) (ht : (⟨(Lib.itoa z).toArray⟩ : ByteArray) = t) :
    Calls Tryd.prog 30 #[.int .i64 z] w fun e w' => e = .returned (.string t) ∧ Below w.heap.size w w' := by
  subst ht
  refine (Tryd.strconv_Itoa z (by omega) (by omega) w hp).mono ?_
  rintro e w1 ⟨rfl, k, os, hw1⟩
  exact ⟨rfl, by rw [hw1]; exact Lib.below_grow _ _ (Nat.le_refl _) _ _⟩
theorem below_three' {a b c d : World} (h1 : Below a.heap.size a.drew b) (h2 : Below b.heap.size b c) (h3 : Below c.heap.size c d) : Below a.heap.size a d :=
  (((Below.refl _ a).drew.trans h1).trans (h2.mono h1.size)).trans (h3.mono (Nat.le_trans h1.size h2.size))

set_option maxHeartbeats 1000000 in
theorem specPtrText_any (p : PtrM) (w : World) :
    Calls Tryd.prog 22 #[pv p] w fun e w' => e = .returned (.string (ptrText p)) ∧ Below w.heap.size w w' := by
  have hnot : ∀ (x : Bool) (w : World), (Op.unary .not (.bool x)).run Tryd.prog w = .ok (.bool (!x)) w := fun _ _ => rfl
  obtain ⟨hX, hsz, hB⟩ := box1 w #[.int .i64 p.at_, .int .i64 p.sum, .int .i64 p.birth] 48
  have XP := Lib.hid hX
  have B0 := Lib.hid hB
  clear hX hB
  by_cases hok : PtrOkM p
  · go_enter Tryd.func22, Tryd.ntmps22
    go_wp2_with fail
    refine (specPtrOk_is p _ true (decide_eq_true hok)).mono ?_
    rintro e w1 ⟨rfl, hb⟩
    have XP1 := Lib.hid (XP.out.below hb XP.out.lt)
    have B1 := Lib.hid (B0.out.trans (hb.mono B0.out.size))
    have hlt : w.heap.size + 1 ≤ w1.heap.size := by have := hb.size; omega
    clear hb XP B0 hsz
    obtain ⟨x0, x1, x2⟩ := XP1.out.three
    by_cases hn : NullM p
    · have HT := Lib.hid (show ptrText p = ⟨#[45]⟩ from by unfold ptrText; rw [if_neg (not_not_intro hok), if_pos hn])
      rw [hn.1] at x0
      clear hok hn
      go_wp2
      go_ret
      exact ⟨ret_s HT.out.symm, B1.out⟩
    · have HT := Lib.hid (show ptrText p = ⟨(ptrL p).toArray⟩ from by unfold ptrText; rw [if_neg (not_not_intro hok), if_neg hn])
      have hg : GoodM p := hok.resolve_left hn
      obtain ⟨at_, sum, birth⟩ := p
      obtain ⟨g1, g2, g3, g4, g5, g6⟩ := hg
      simp only at g1 g2 g3 g4 g5 g6 x0 x1 x2
      have hat : ¬ at_ = 0 := by omega
      have l1 := Lib.itoa_length_le at_ (by omega) (by omega)
      have l2 := Lib.itoa_length_le sum (by omega) (by omega)
      have l3 := Lib.itoa_length_le birth (by omega) (by omega)
      obtain ⟨t1, H1⟩ : ∃ t, Hid ((⟨(Lib.itoa at_).toArray⟩ : ByteArray) = t) := ⟨_, Lib.hid rfl⟩
      obtain ⟨t2, H2⟩ : ∃ t, Hid ((⟨(Lib.itoa sum).toArray⟩ : ByteArray) = t) := ⟨_, Lib.hid rfl⟩
      obtain ⟨t3, H3⟩ : ∃ t, Hid ((⟨(Lib.itoa birth).toArray⟩ : ByteArray) = t) := ⟨_, Lib.hid rfl⟩
      have HP := Lib.hid (ptr_app (Lib.itoa at_) (Lib.itoa sum) (Lib.itoa birth))
      rw [H1.out, H2.out, H3.out] at HP
      have z1 : t1.size ≤ 21 := by rw [← H1.out]; show (Lib.itoa at_).toArray.size ≤ 21; simpa using l1
      have z2 : t2.size ≤ 21 := by rw [← H2.out]; show (Lib.itoa sum).toArray.size ≤ 21; simpa using l2
      have z3 : t3.size ≤ 21 := by rw [← H3.out]; show (Lib.itoa birth).toArray.size ≤ 21; simpa using l3
      have k1 : ∀ w, (Op.stringOp .add t1 (⟨#[46]⟩ : ByteArray)).run Tryd.prog w = .ok (.string (t1 ++ (⟨#[46]⟩ : ByteArray))) w := add_str _ _ (by show t1.size + 1 ≤ _; omega)
      have k2 : ∀ w, (Op.stringOp .add (t1 ++ (⟨#[46]⟩ : ByteArray)) t2).run Tryd.prog w = .ok (.string (t1 ++ (⟨#[46]⟩ : ByteArray) ++ t2)) w := add_str _ _ (by rw [ByteArray.size_append]; show t1.size + 1 + _ ≤ _; omega)
      have k3 : ∀ w, (Op.stringOp .add (t1 ++ (⟨#[46]⟩ : ByteArray) ++ t2) (⟨#[46]⟩ : ByteArray)).run Tryd.prog w = .ok (.string (t1 ++ (⟨#[46]⟩ : ByteArray) ++ t2 ++ (⟨#[46]⟩ : ByteArray))) w := add_str _ _ (by rw [ByteArray.size_append, ByteArray.size_append]; show t1.size + 1 + _ + 1 ≤ _; omega)
      have k4 : ∀ w, (Op.stringOp .add (t1 ++ (⟨#[46]⟩ : ByteArray) ++ t2 ++ (⟨#[46]⟩ : ByteArray)) t3).run Tryd.prog w = .ok (.string (t1 ++ (⟨#[46]⟩ : ByteArray) ++ t2 ++ (⟨#[46]⟩ : ByteArray) ++ t3)) w := add_str _ _ (by rw [ByteArray.size_append, ByteArray.size_append, ByteArray.size_append]; show t1.size + 1 + _ + 1 + _ ≤ _; omega)
      clear l1 l2 l3 hok hn
      go_wp2_with fail
      go_region_held3 (fun w' => w.heap.size + 1 ≤ w'.heap.size ∧ w'.cell? ⟨w.heap.size, 0, none⟩ = some (.int .i64 at_) ∧ w'.cell? ⟨w.heap.size, 1, none⟩ = some (.int .i64 sum) ∧ w'.cell? ⟨w.heap.size, 2, none⟩ = some (.int .i64 birth))
        (first
          | exact ⟨by simp; omega, x0, x1, x2⟩
          | (go_split_ands
             refine ⟨Nat.le_trans (by assumption) hb4.size, ?_, ?_, ?_⟩
             all_goals (rw [hb4.cell (by simp <;> omega)]; assumption))
          | (go_split_ands
             refine ⟨Nat.le_trans (by assumption) hb3.size, ?_, ?_, ?_⟩
             all_goals (rw [hb3.cell (by simp <;> omega)]; assumption))
          | (go_split_ands
             refine ⟨Nat.le_trans (by assumption) hb2.size, ?_, ?_, ?_⟩
             all_goals (rw [hb2.cell (by simp <;> omega)]; assumption)))
        (first
          | (go_at_call 20; ((with_reducible refine (decIs at_ _ (by omega) (by omega) t1 H1.out).mono ?_); rintro e w2 ⟨rfl, hb2⟩))
          | (go_at_call 20; ((with_reducible refine (decIs sum _ (by omega) (by omega) t2 H2.out).mono ?_); rintro e w3 ⟨rfl, hb3⟩))
          | (go_at_call 20; ((with_reducible refine (decIs birth _ (by omega) (by omega) t3 H3.out).mono ?_); rintro e w4 ⟨rfl, hb4⟩)))
      have hb14 := below_three' (a := w1) hb2 hb3 hb4
      have B4 := Lib.hid (B1.out.trans (hb14.mono B1.out.size))
      clear hb2 hb3 hb4 hb14 x0 x1 x2 B1
      go_wp2
      go_ret
      exact ⟨ret_s (HP.out.trans HT.out.symm), B4.out⟩
  · have HT := Lib.hid (show ptrText p = ⟨#[]⟩ from by unfold ptrText; rw [if_pos hok])
    go_enter Tryd.func22, Tryd.ntmps22
    go_wp2_with fail
    refine (specPtrOk_is p _ false (decide_eq_false hok)).mono ?_
    rintro e w1 ⟨rfl, hb⟩
    have B1 := Lib.hid (B0.out.trans (hb.mono B0.out.size))
    go_wp2
    go_ret
    exact ⟨ret_s HT.out.symm, B1.out⟩
/-- Three numbers with points between them. -/
def trip (a b c : Int) : List UInt8 := Lib.itoa a ++ 46 :: (Lib.itoa b ++ 46 :: Lib.itoa c)
set_option maxHeartbeats 1000000 in
theorem blkPointed_any (a b c : Int) (w : World) (ha : 0 ≤ a ∧ a < 9223372036854775807) (hb : 0 ≤ b ∧ b < 9223372036854775807) (hc : 0 ≤ c ∧ c < 9223372036854775807) (hp : HasPow w) :
    Calls Tryd.prog 54 #[.int .i64 a, .int .i64 b, .int .i64 c] w fun e w' => e = .returned (.string ⟨(trip a b c).toArray⟩) ∧ Below w.heap.size w w' := by
  have P0 := Lib.hid hp
  clear hp
  have l1 := Lib.itoa_length_le a (by omega) (by omega)
  have l2 := Lib.itoa_length_le b (by omega) (by omega)
  have l3 := Lib.itoa_length_le c (by omega) (by omega)
  obtain ⟨t1, H1⟩ : ∃ t, Hid ((⟨(Lib.itoa a).toArray⟩ : ByteArray) = t) := ⟨_, Lib.hid rfl⟩
  obtain ⟨t2, H2⟩ : ∃ t, Hid ((⟨(Lib.itoa b).toArray⟩ : ByteArray) = t) := ⟨_, Lib.hid rfl⟩
  obtain ⟨t3, H3⟩ : ∃ t, Hid ((⟨(Lib.itoa c).toArray⟩ : ByteArray) = t) := ⟨_, Lib.hid rfl⟩
  have HP := Lib.hid (ptr_app (Lib.itoa a) (Lib.itoa b) (Lib.itoa c))
  rw [H1.out, H2.out, H3.out] at HP
  have HT := Lib.hid (show (⟨(Lib.itoa a ++ 46 :: (Lib.itoa b ++ 46 :: Lib.itoa c)).toArray⟩ : ByteArray) = ⟨(trip a b c).toArray⟩ from rfl)
  have z1 : t1.size ≤ 21 := by rw [← H1.out]; show (Lib.itoa a).toArray.size ≤ 21; simpa using l1
  have z2 : t2.size ≤ 21 := by rw [← H2.out]; show (Lib.itoa b).toArray.size ≤ 21; simpa using l2
  have z3 : t3.size ≤ 21 := by rw [← H3.out]; show (Lib.itoa c).toArray.size ≤ 21; simpa using l3
  have k1 : ∀ w, (Op.stringOp .add t1 (⟨#[46]⟩ : ByteArray)).run Tryd.prog w = .ok (.string (t1 ++ (⟨#[46]⟩ : ByteArray))) w := add_str _ _ (by show t1.size + 1 ≤ _; omega)
  have k2 : ∀ w, (Op.stringOp .add (t1 ++ (⟨#[46]⟩ : ByteArray)) t2).run Tryd.prog w = .ok (.string (t1 ++ (⟨#[46]⟩ : ByteArray) ++ t2)) w := add_str _ _ (by rw [ByteArray.size_append]; show t1.size + 1 + _ ≤ _; omega)
  have k3 : ∀ w, (Op.stringOp .add (t1 ++ (⟨#[46]⟩ : ByteArray) ++ t2) (⟨#[46]⟩ : ByteArray)).run Tryd.prog w = .ok (.string (t1 ++ (⟨#[46]⟩ : ByteArray) ++ t2 ++ (⟨#[46]⟩ : ByteArray))) w := add_str _ _ (by rw [ByteArray.size_append, ByteArray.size_append]; show t1.size + 1 + _ + 1 ≤ _; omega)
  have k4 : ∀ w, (Op.stringOp .add (t1 ++ (⟨#[46]⟩ : ByteArray) ++ t2 ++ (⟨#[46]⟩ : ByteArray)) t3).run Tryd.prog w = .ok (.string (t1 ++ (⟨#[46]⟩ : ByteArray) ++ t2 ++ (⟨#[46]⟩ : ByteArray) ++ t3)) w := add_str _ _ (by rw [ByteArray.size_append, ByteArray.size_append, ByteArray.size_append]; show t1.size + 1 + _ + 1 + _ ≤ _; omega)
  clear l1 l2 l3
  go_enter Tryd.func54, Tryd.ntmps54
  go_wp2_with fail
  refine (itoaIs a _ ha.1 ha.2 P0.out t1 H1.out).mono ?_
  rintro e w1 ⟨rfl, hb1⟩
  have P1 := Lib.hid (P0.out.below hb1 P0.out.lt)
  go_wp2_with fail
  refine (itoaIs b _ hb.1 hb.2 P1.out t2 H2.out).mono ?_
  rintro e w2 ⟨rfl, hb2⟩
  have P2 := Lib.hid (P1.out.below hb2 P1.out.lt)
  go_wp2_with fail
  refine (itoaIs c _ hc.1 hc.2 P2.out t3 H3.out).mono ?_
  rintro e w3 ⟨rfl, hb3⟩
  have B3 := Lib.hid ((hb1.trans (hb2.mono hb1.size)).trans (hb3.mono (Nat.le_trans hb1.size hb2.size)))
  clear hb1 hb2 hb3 P1 P2
  go_wp2
  go_ret
  exact ⟨ret_s (HP.out.trans HT.out), B3.out⟩
theorem blkPointed_is (a b c : Int) (w : World) (ha : 0 ≤ a ∧ a < 9223372036854775807) (hb : 0 ≤ b ∧ b < 9223372036854775807) (hc : 0 ≤ c ∧ c < 9223372036854775807) (hp : HasPow w) (t : ByteArray) (ht : (⟨(trip a b c).toArray⟩ : ByteArray) = t) :
    Calls Tryd.prog 54 #[.int .i64 a, .int .i64 b, .int .i64 c] w fun e w' => e = .returned (.string t) ∧ Below w.heap.size w w' := ht ▸ blkPointed_any a b c w ha hb hc hp

set_option maxHeartbeats 1000000 in
theorem implPtrText_any (p : PtrM) (w : World) (hp : HasPow w) :
    Calls Tryd.prog 31 #[pv p] w fun e w' => e = .returned (.string (ptrText p)) ∧ Below w.heap.size w w' := by
  have hnot : ∀ (x : Bool) (w : World), (Op.unary .not (.bool x)).run Tryd.prog w = .ok (.bool (!x)) w := fun _ _ => rfl
  obtain ⟨hX, hsz, hB⟩ := box1 w #[.int .i64 p.at_, .int .i64 p.sum, .int .i64 p.birth] 48
  have XP := Lib.hid hX
  have B0 := Lib.hid hB
  clear hX hB
  by_cases hok : PtrOkM p
  · go_enter Tryd.func31, Tryd.ntmps31
    go_wp2_with fail
    refine (implPtrOk_is p _ true (decide_eq_true hok)).mono ?_
    rintro e w1 ⟨rfl, hb⟩
    have XP1 := Lib.hid (XP.out.below hb XP.out.lt)
    have B1 := Lib.hid (B0.out.trans (hb.mono B0.out.size))
    have hlt : w.heap.size + 1 ≤ w1.heap.size := by have := hb.size; omega
    clear hb XP B0 hsz
    obtain ⟨x0, x1, x2⟩ := XP1.out.three
    by_cases hn : NullM p
    · have HT := Lib.hid (show ptrText p = ⟨#[45]⟩ from by unfold ptrText; rw [if_neg (not_not_intro hok), if_pos hn])
      rw [hn.1] at x0
      rw [hn.2.1] at x1
      rw [hn.2.2] at x2
      clear hok hn
      go_wp2
      go_ret
      exact ⟨ret_s HT.out.symm, B1.out⟩
    · have HT := Lib.hid (show (⟨(trip p.at_ p.sum p.birth).toArray⟩ : ByteArray) = ptrText p from by unfold ptrText; rw [if_neg (not_not_intro hok), if_neg hn]; rfl)
      have hg : GoodM p := hok.resolve_left hn
      obtain ⟨at_, sum, birth⟩ := p
      obtain ⟨g1, g2, g3, g4, g5, g6⟩ := hg
      simp only at g1 g2 g3 g4 g5 g6 x0 x1 x2
      have hat : ¬ at_ = 0 := by omega
      have hg0 := hp.lt
      have P1 := Lib.hid (show HasPow w1 from (hp.below B1.out hg0))
      obtain ⟨t, HE⟩ : ∃ t, Hid (ptrText ⟨at_, sum, birth⟩ = t) := ⟨_, Lib.hid rfl⟩
      have HT2 := Lib.hid (HT.out.trans HE.out)
      clear HT hok hn
      go_wp2_with fail
      refine (blkPointed_is at_ sum birth _ ⟨by omega, by omega⟩ ⟨by omega, by omega⟩ ⟨by omega, by omega⟩ P1.out t HT2.out).mono ?_
      rintro e w2 ⟨rfl, hb⟩
      have B2 := Lib.hid (B1.out.trans (hb.mono B1.out.size))
      clear hb B1 x0 x1 x2
      go_wp2
      go_ret
      exact ⟨ret_s HE.out.symm, B2.out⟩
  · have HT := Lib.hid (show ptrText p = ⟨#[]⟩ from by unfold ptrText; rw [if_pos hok])
    go_enter Tryd.func31, Tryd.ntmps31
    go_wp2_with fail
    refine (implPtrOk_is p _ false (decide_eq_false hok)).mono ?_
    rintro e w1 ⟨rfl, hb⟩
    have B1 := Lib.hid (B0.out.trans (hb.mono B0.out.size))
    go_wp2
    go_ret
    exact ⟨ret_s HT.out.symm, B1.out⟩
end Go.Proofs.YthcfiobnnceomaaDoor
