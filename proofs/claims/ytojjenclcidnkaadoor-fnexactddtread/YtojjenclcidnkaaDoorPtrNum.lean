/-
  The document's reader of numbers, and its cutter of texts.
-/
import Derived.Test.YtojjenclcidnkaaDoorRows
import Derived.Test.YtojjenclcidnkaaDoorPtrMath
import Derived.Test.YtojjenclcidnkaaDoorBytes
import Derived.Test.YtojjenclcidnkaaDoorSum
import Derived.Test.YtojjenclcidnkaaDoorMem
import Derived.Test.YtojjenclcidnkaaDoorBox
import Derived.Test.YtojjenclcidnkaaDoorFresh
import Derived.WalkKit
import Derived.ProofKit
import Derived.Lib.Hide
import Derived.Deep.Cut
set_option maxRecDepth 100000
namespace Go.Proofs.YtojjenclcidnkaaDoor
open Go.ChangeShapes Go.WideShapes Go.ChangeAt Go.RowKit Go.Proofs.Palim

/-- A number is read off a text: some number, and whether it is one; at a numeral just that. -/
def NumRead (s : ByteArray) (w : World) (e : Ending) (w' : World) : Prop :=
  ∃ (n : Int) (b : Bool), e = .returned (.tuple #[.int .i64 n, .bool b]) ∧ w = w' ∧ ∀ m : Nat, m < 100000000 → s.data.toList = Lib.decDigits m → n = (m : Int) ∧ b = true

theorem size_list (s : ByteArray) : s.size = s.data.toList.length := (Array.length_toList).symm
theorem at_list (s : ByteArray) (k : Nat) (h : k < s.size) : s[k] = s.data.toList[k]'(by rw [← size_list]; exact h) := rfl

/-- A byte that is no digit: no numeral. -/
theorem none_of (s : ByteArray) (k : Nat) (hk : k < s.size) (hd : ¬ (48 ≤ s[k].toNat ∧ s[k].toNat ≤ 57)) : ∀ m : Nat, m < 100000000 → s.data.toList = Lib.decDigits m → (0 : Int) = (m : Int) ∧ false = true :=
  fun m _ e => (hd (dd_all m _ (by rw [← e]; exact List.getElem_mem _))).elim

set_option maxHeartbeats 1000000 in
theorem l19Num_any (s : ByteArray) (w : World) (hs : s.size ≤ 1000000) :
    Calls Tryd.prog 10 #[.string s] w (NumRead s w) := by
  by_cases h0 : s.size = 0
  · have HC := Lib.hid (show ∀ m : Nat, m < 100000000 → s.data.toList = Lib.decDigits m → False from fun m _ e => by
      have := dd_pos m; rw [← e, ← size_list] at this; omega)
    go_enter Tryd.func10, Tryd.ntmps10
    go_wp2
    go_ret2
    exact ⟨0, false, rfl, rfl, fun m h e => (HC.out m h e).elim⟩
  have hpos : 0 < s.size := by omega
  have HALL := Lib.hid (show ∀ m : Nat, s.data.toList = Lib.decDigits m → 48 ≤ s[0].toNat ∧ s[0].toNat ≤ 57 from fun m e => dd_all m _ (by rw [← e]; exact List.getElem_mem _))
  have hc0 := s[0].toNat_lt
  by_cases hneg : s[0].toNat = 45
  · have HNEG := Lib.hid (show ∀ m : Nat, m < 100000000 → s.data.toList = Lib.decDigits m → False from fun m _ e => by have := HALL.out m e; omega)
    have hnb : ((s[0].toNat : Int) == 45) = true := beq_iff_eq.2 (by omega)
    have hts : (s.extract 1 s.size).size = s.size - 1 := by rw [ByteArray.size_extract]; omega
    clear HALL
    go_enter Tryd.func10, Tryd.ntmps10
    go_upto_region 4 with fail
    generalize s.extract 1 s.size = t at hts ⊢
    have htl : t.size ≤ 1000000 := by omega
    clear hts
    by_cases t0 : t.size = 0
    · go_wp2
      go_ret2
      exact ⟨0, false, rfl, rfl, fun m h e => (HNEG.out m h e).elim⟩
    have tl0 : ((t.size : Int) == 0) = false := beq_eq_false_iff_ne.2 (by omega)
    have htp : 0 < t.size := by omega
    have ht0 := t[0].toNat_lt
    by_cases t17 : 17 < t.size
    · go_wp2
      go_ret2
      exact ⟨0, false, rfl, rfl, fun m h e => (HNEG.out m h e).elim⟩
    by_cases tz : t[0].toNat = 48
    · have tzb : ((t[0].toNat : Int) == 48) = true := beq_iff_eq.2 (by omega)
      by_cases t1 : 1 < t.size
      all_goals
        go_wp2
        go_ret2
        exact ⟨0, false, rfl, rfl, fun m h e => (HNEG.out m h e).elim⟩
    have tzb : ((t[0].toNat : Int) == 48) = false := beq_eq_false_iff_ne.2 (by omega)
    go_wp2_with fail
    go_loop [5, 6] (fun v i => ∃ k n : Nat, k ≤ t.size ∧ i = .int .i64 (k : Int) ∧ v = .int .i64 (n : Int) ∧ Hid (n < 10 ^ k)) (fun _ i => t.size - (intOf i).toNat)
    case atStart => exact ⟨0, 0, Nat.zero_le _, rfl, rfl, Lib.hid (by simp)⟩
    case round =>
      obtain ⟨k, n, hk, rfl, rfl, HP⟩ := hrel
      by_cases hlt : k < t.size
      · have hc := t[k].toNat_lt
        have hn16 : n < 10000000000000000 := Nat.lt_of_lt_of_le HP.out (Nat.le_trans (Nat.pow_le_pow_right (by omega) (show k ≤ 16 by omega)) (by decide))
        by_cases h1 : t[k].toNat < 48
        · clear HP
          go_wp2
          go_ret2
          exact ⟨0, false, rfl, rfl, fun m h e => (HNEG.out m h e).elim⟩
        by_cases h2 : 57 < t[k].toNat
        · clear HP
          go_wp2
          go_ret2
          exact ⟨0, false, rfl, rfl, fun m h e => (HNEG.out m h e).elim⟩
        have HP2 := Lib.hid (show n * 10 + (t[k].toNat - 48) < 10 ^ (k + 1) from by have := HP.out; rw [Nat.pow_succ]; omega)
        clear HP
        go_wp2
        go_round
        case rel => exact ⟨k + 1, n * 10 + (t[k].toNat - 48), by omega, by go_num, by first | (congr 1; omega) | go_num, HP2⟩
        case measure => simp [intOf]; omega
      · have hn17 : n < 1000000000000000000 := Nat.lt_of_lt_of_le HP.out (Nat.le_trans (Nat.pow_le_pow_right (by omega) (show k ≤ 18 by omega)) (by decide))
        clear HP
        go_wp2
        go_ret2
        exact ⟨_, true, rfl, rfl, fun m h e => (HNEG.out m h e).elim⟩
  by_cases h17 : 17 < s.size
  · have HC := Lib.hid (show ∀ m : Nat, m < 100000000 → s.data.toList = Lib.decDigits m → False from fun m h e => by
      have := dd_len 7 m (by omega); rw [← e, ← size_list] at this; omega)
    clear HALL
    go_enter Tryd.func10, Tryd.ntmps10
    go_wp2
    go_ret2
    exact ⟨0, false, rfl, rfl, fun m h e => (HC.out m h e).elim⟩
  by_cases hz : s[0].toNat = 48 ∧ 1 < s.size
  · have HC := Lib.hid (show ∀ m : Nat, m < 100000000 → s.data.toList = Lib.decDigits m → False from fun m _ e => by
      have h1 : m = 0 := dd_head m (by have := hz.1; rw [at_list] at this; simpa [e] using this)
      subst h1
      have h2 := hz.2
      rw [size_list, e, Lib.decDigits_one (by omega)] at h2
      simp at h2)
    clear HALL
    obtain ⟨z1, z2⟩ := hz
    go_enter Tryd.func10, Tryd.ntmps10
    go_wp2
    go_ret2
    exact ⟨0, false, rfl, rfl, fun m h e => (HC.out m h e).elim⟩
  clear HALL
  have hz' : ¬ s[0].toNat = 48 ∨ (s[0].toNat = 48 ∧ s.size = 1) := by omega
  clear hz
  rcases hz' with hz | ⟨hz, hz2⟩
  · have hzb : ((s[0].toNat : Int) == 48) = false := beq_eq_false_iff_ne.2 (by omega)
    have hnb : ((s[0].toNat : Int) == 45) = false := beq_eq_false_iff_ne.2 (by omega)
    have hl0 : ((s.size : Int) == 0) = false := beq_eq_false_iff_ne.2 (by omega)
    go_enter Tryd.func10, Tryd.ntmps10
    go_wp2_with fail
    go_loop [5, 6] (fun v i => ∃ k n : Nat, k ≤ s.size ∧ i = .int .i64 (k : Int) ∧ v = .int .i64 (n : Int) ∧ Hid (n < 10 ^ k) ∧ Hid (n = valF 0 (s.data.toList.take k))) (fun _ i => s.size - (intOf i).toNat)
    case atStart => exact ⟨0, 0, Nat.zero_le _, rfl, rfl, Lib.hid (by simp), Lib.hid rfl⟩
    case round =>
      obtain ⟨k, n, hk, rfl, rfl, HP, HV⟩ := hrel
      by_cases hlt : k < s.size
      · have hc := s[k].toNat_lt
        have hn16 : n < 10000000000000000 := Nat.lt_of_lt_of_le HP.out (Nat.le_trans (Nat.pow_le_pow_right (by omega) (show k ≤ 16 by omega)) (by decide))
        by_cases h1 : s[k].toNat < 48
        · have HF := Lib.hid (none_of s k hlt (fun hd => by have := (hd.1 : 48 ≤ s[k].toNat); omega))
          clear HP HV
          go_wp2
          go_ret2
          exact ⟨0, false, rfl, rfl, HF.out⟩
        by_cases h2 : 57 < s[k].toNat
        · have HF := Lib.hid (none_of s k hlt (fun hd => by have := (hd.2 : s[k].toNat ≤ 57); omega))
          clear HP HV
          go_wp2
          go_ret2
          exact ⟨0, false, rfl, rfl, HF.out⟩
        have HP2 := Lib.hid (show n * 10 + (s[k].toNat - 48) < 10 ^ (k + 1) from by have := HP.out; rw [Nat.pow_succ]; omega)
        have HV2 := Lib.hid (show n * 10 + (s[k].toNat - 48) = valF 0 (s.data.toList.take (k + 1)) from by rw [take_snoc s k hlt, valF_snoc, ← HV.out])
        clear HP HV
        go_wp2
        go_round
        case rel => exact ⟨k + 1, n * 10 + (s[k].toNat - 48), by omega, by go_num, by first | (congr 1; omega) | go_num, HP2, HV2⟩
        case measure => simp [intOf]; omega
      · have HV2 := Lib.hid (show n = valF 0 s.data.toList from by have := HV.out; rwa [List.take_of_length_le (by rw [← size_list]; omega)] at this)
        have hn17 : n < 1000000000000000000 := Nat.lt_of_lt_of_le HP.out (Nat.le_trans (Nat.pow_le_pow_right (by omega) (show k ≤ 18 by omega)) (by decide))
        clear HP HV
        go_wp2
        go_ret2
        exact ⟨_, true, rfl, rfl, fun m _ e => ⟨by rw [HV2.out, e, dd_val], rfl⟩⟩
  · have hzb : ((s[0].toNat : Int) == 48) = true := beq_iff_eq.2 (by omega)
    go_enter Tryd.func10, Tryd.ntmps10
    go_wp2_with fail
    go_loop [5, 6] (fun v i => ∃ k n : Nat, k ≤ s.size ∧ i = .int .i64 (k : Int) ∧ v = .int .i64 (n : Int) ∧ Hid (n < 10 ^ k) ∧ Hid (n = valF 0 (s.data.toList.take k))) (fun _ i => s.size - (intOf i).toNat)
    case atStart => exact ⟨0, 0, Nat.zero_le _, rfl, rfl, Lib.hid (by simp), Lib.hid rfl⟩
    case round =>
      obtain ⟨k, n, hk, rfl, rfl, HP, HV⟩ := hrel
      by_cases hlt : k < s.size
      · have hc := s[k].toNat_lt
        have hn16 : n < 10000000000000000 := Nat.lt_of_lt_of_le HP.out (Nat.le_trans (Nat.pow_le_pow_right (by omega) (show k ≤ 16 by omega)) (by decide))
        by_cases h1 : s[k].toNat < 48
        · have HF := Lib.hid (none_of s k hlt (fun hd => by have := (hd.1 : 48 ≤ s[k].toNat); omega))
          clear HP HV
          go_wp2
          go_ret2
          exact ⟨0, false, rfl, rfl, HF.out⟩
        by_cases h2 : 57 < s[k].toNat
        · have HF := Lib.hid (none_of s k hlt (fun hd => by have := (hd.2 : s[k].toNat ≤ 57); omega))
          clear HP HV
          go_wp2
          go_ret2
          exact ⟨0, false, rfl, rfl, HF.out⟩
        have HP2 := Lib.hid (show n * 10 + (s[k].toNat - 48) < 10 ^ (k + 1) from by have := HP.out; rw [Nat.pow_succ]; omega)
        have HV2 := Lib.hid (show n * 10 + (s[k].toNat - 48) = valF 0 (s.data.toList.take (k + 1)) from by rw [take_snoc s k hlt, valF_snoc, ← HV.out])
        clear HP HV
        go_wp2
        go_round
        case rel => exact ⟨k + 1, n * 10 + (s[k].toNat - 48), by omega, by go_num, by first | (congr 1; omega) | go_num, HP2, HV2⟩
        case measure => simp [intOf]; omega
      · have HV2 := Lib.hid (show n = valF 0 s.data.toList from by have := HV.out; rwa [List.take_of_length_le (by rw [← size_list]; omega)] at this)
        have hn17 : n < 1000000000000000000 := Nat.lt_of_lt_of_le HP.out (Nat.le_trans (Nat.pow_le_pow_right (by omega) (show k ≤ 18 by omega)) (by decide))
        clear HP HV
        go_wp2
        go_ret2
        exact ⟨_, true, rfl, rfl, fun m _ e => ⟨by rw [HV2.out, e, dd_val], rfl⟩⟩
end Go.Proofs.YtojjenclcidnkaaDoor
