/-
  Names of sets: what a name is, and both BookName.
-/
import Derived.Test.YtobjgdnmlibofaaGreatMem
import Derived.Test.YtobjgdnmlibofaaGreatRows
import Derived.WalkKit
import Derived.ProofKit
import Derived.Lib.Hide
import Derived.WalkSpells
import Derived.WalkSmall
set_option maxRecDepth 100000
namespace Go.Proofs.YtobjgdnmlibofaaGreat
open Go.ChangeShapes Go.WideShapes Go.ChangeAt Go.RowKit Go.Proofs.Palim

/-- The bytes of a name are small letters. -/
def Letters (s : ByteArray) (k : Nat) : Prop := ∀ (i : Nat) (h : i < s.size), i < k → 97 ≤ s[i].toNat ∧ s[i].toNat ≤ 122
def NameOk (s : ByteArray) : Prop := 1 ≤ s.size ∧ s.size ≤ 6 ∧ Letters s s.size
instance (s : ByteArray) (k : Nat) : Decidable (Letters s k) := by unfold Letters; exact inferInstance
instance (s : ByteArray) : Decidable (NameOk s) := by unfold NameOk; exact inferInstance
theorem letters_succ {s : ByteArray} {k : Nat} (h : k < s.size) (hl : Letters s k) (h1 : 97 ≤ s[k].toNat) (h2 : s[k].toNat ≤ 122) : Letters s (k + 1) := by
  intro i hi hk
  by_cases e : i = k
  · subst e; exact ⟨h1, h2⟩
  · exact hl i hi (by omega)
theorem name_bad {s : ByteArray} {k : Nat} (h : k < s.size) (hb : s[k].toNat < 97 ∨ 122 < s[k].toNat) : decide (NameOk s) = false := by
  refine decide_eq_false ?_
  rintro ⟨_, _, hl⟩
  have := hl k h h
  omega
theorem name_len {s : ByteArray} (h : s.size < 1 ∨ 6 < s.size) : decide (NameOk s) = false := by
  refine decide_eq_false ?_
  rintro ⟨_, _, hl⟩
  omega
theorem name_good {s : ByteArray} {k : Nat} (h0 : 1 ≤ s.size) (h6 : s.size ≤ 6) (hk : s.size ≤ k) (hl : Letters s k) : decide (NameOk s) = true :=
  decide_eq_true ⟨h0, h6, fun i hi _ => hl i hi (by omega)⟩

set_option maxHeartbeats 1000000 in
theorem BookName_any (s : ByteArray) (w : World) (hs : s.size ≤ maxLen) :
    Calls Tryz.prog 101 #[.string s] w fun e w' => e = .returned (.bool (decide (NameOk s))) ∧ w' = w := by
  unfold maxLen at hs
  obtain ⟨ok, HOK⟩ : ∃ ok, Hid (decide (NameOk s) = ok) := ⟨_, Lib.hid rfl⟩
  rw [HOK.out]
  go_enter Tryz.func101, Tryz.ntmps101
  go_wp2
  go_loop [3] (fun i => ∃ k : Nat, k ≤ s.size ∧ i = .int .i64 k ∧ Hid (Letters s k)) (fun i => s.size - (intOf i).toNat)
  case atStart => exact ⟨0, Nat.zero_le _, rfl, Lib.hid (fun _ _ h => absurd h (Nat.not_lt_zero _))⟩
  case round =>
    obtain ⟨k, hk, rfl, HL⟩ := hrel
    by_cases hlt : k < s.size
    · by_cases h1 : s[k].toNat < 97
      · have HF := Lib.hid (HOK.out.symm.trans (name_bad hlt (Or.inl h1)))
        have h1z : (s[k].toNat : Int) < 97 := by omega
        go_wp2
        go_ret
        exact ⟨by rw [HF.out]; rfl, rfl⟩
      · by_cases h2 : 122 < s[k].toNat
        · have HF := Lib.hid (HOK.out.symm.trans (name_bad hlt (Or.inr h2)))
          have h1z : ¬ (s[k].toNat : Int) < 97 := by omega
          have h2z : (s[k].toNat : Int) > 122 := by omega
          go_wp2
          go_ret
          exact ⟨by rw [HF.out]; rfl, rfl⟩
        · have HL2 := Lib.hid (letters_succ hlt HL.out (by omega) (by omega))
          have h1z : ¬ (s[k].toNat : Int) < 97 := by omega
          have h2z : ¬ (s[k].toNat : Int) > 122 := by omega
          go_wp2
          go_roundw
          case rel => exact ⟨k + 1, by omega, by go_num, HL2⟩
          case measure => simp [intOf]; omega
    · by_cases h0 : 0 < s.size
      · by_cases h6 : s.size ≤ 6
        · have HF := Lib.hid (HOK.out.symm.trans (name_good h0 h6 (by omega) HL.out))
          have h6z : (s.size : Int) ≤ 6 := by omega
          go_wp2
          go_ret
          exact ⟨by rw [HF.out]; rfl, rfl⟩
        · have HF := Lib.hid (HOK.out.symm.trans (name_len (Or.inr (by omega))))
          have h6z : ¬ (s.size : Int) ≤ 6 := by omega
          go_wp2
          go_ret
          exact ⟨by rw [HF.out]; rfl, rfl⟩
      · have HF := Lib.hid (HOK.out.symm.trans (name_len (Or.inl (by omega))))
        go_wp2
        go_ret
        exact ⟨by rw [HF.out]; rfl, rfl⟩
set_option maxHeartbeats 1000000 in
theorem ImplBookName_any (s : ByteArray) (w : World) (hs : s.size ≤ maxLen) :
    Calls Tryz.prog 140 #[.string s] w fun e w' => e = .returned (.bool (decide (NameOk s))) ∧ w' = w := by
  unfold maxLen at hs
  obtain ⟨ok, HOK⟩ : ∃ ok, Hid (decide (NameOk s) = ok) := ⟨_, Lib.hid rfl⟩
  rw [HOK.out]
  by_cases h0 : s.size < 1
  · have HF := Lib.hid (HOK.out.symm.trans (name_len (Or.inl h0)))
    go_enter Tryz.func140, Tryz.ntmps140
    go_wp2
    go_ret
    exact ⟨by rw [HF.out]; rfl, rfl⟩
  by_cases h6 : 6 < s.size
  · have HF := Lib.hid (HOK.out.symm.trans (name_len (Or.inr h6)))
    go_enter Tryz.func140, Tryz.ntmps140
    go_wp2
    go_ret
    exact ⟨by rw [HF.out]; rfl, rfl⟩
  go_enter Tryz.func140, Tryz.ntmps140
  go_wp2
  go_loop [3, 14] (fun _ i => ∃ k : Nat, k ≤ s.size ∧ i = .int .i64 k ∧ Hid (Letters s k)) (fun _ i => s.size - (intOf i).toNat)
  case atStart => exact ⟨0, Nat.zero_le _, rfl, Lib.hid (fun _ _ h => absurd h (Nat.not_lt_zero _))⟩
  case round =>
    obtain ⟨k, hk, rfl, HL⟩ := hrel
    by_cases hlt : k < s.size
    · by_cases h1 : s[k].toNat < 97
      · have HF := Lib.hid (HOK.out.symm.trans (name_bad hlt (Or.inl h1)))
        have h1z : (s[k].toNat : Int) < 97 := by omega
        go_wp2
        go_ret
        exact ⟨by rw [HF.out]; rfl, rfl⟩
      · by_cases h2 : 122 < s[k].toNat
        · have HF := Lib.hid (HOK.out.symm.trans (name_bad hlt (Or.inr h2)))
          have h1z : ¬ (s[k].toNat : Int) < 97 := by omega
          have h2z : (s[k].toNat : Int) > 122 := by omega
          go_wp2
          go_ret
          exact ⟨by rw [HF.out]; rfl, rfl⟩
        · have HL2 := Lib.hid (letters_succ hlt HL.out (by omega) (by omega))
          have h1z : ¬ (s[k].toNat : Int) < 97 := by omega
          have h2z : ¬ (s[k].toNat : Int) > 122 := by omega
          go_wp2
          go_roundw
          case rel => exact ⟨k + 1, by omega, by go_num, HL2⟩
          case measure => simp [intOf]; omega
    · have HF := Lib.hid (HOK.out.symm.trans (name_good (by omega) (by omega) (by omega) HL.out))
      go_wp2
      go_ret
      exact ⟨by rw [HF.out]; rfl, rfl⟩
end Go.Proofs.YtobjgdnmlibofaaGreat
