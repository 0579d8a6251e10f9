/-
  Facts of chapter 1 as plain mathematics: another byte gives another checksum; what is sealed is opened, and only that.
-/
import Derived.Test.YtgjlhokakcdpbaaGreatDoorOpen
import Derived.Test.YtgjlhokakcdpbaaGreatDoorTexts
set_option maxRecDepth 100000
namespace Go.Proofs.YtgjlhokakcdpbaaGreatDoor
open Go.RowKit Go.Proofs.Palim

theorem step_inj {n m : Int} {c : UInt8} (h0 : 0 ≤ n) (h1 : n < 65521) (h2 : 0 ≤ m) (h3 : m < 65521) (h : sumStep n c = sumStep m c) : n = m := by
  unfold sumStep at h; omega
theorem step_byte {n : Int} {c d : UInt8} (h : sumStep n c = sumStep n d) : c = d := by
  have hc := c.toNat_lt
  have hd := d.toNat_lt
  unfold sumStep at h
  exact UInt8.toNat_inj.1 (by omega)
theorem from_inj : ∀ (l : List UInt8) {n m : Int}, 0 ≤ n → n < 65521 → 0 ≤ m → m < 65521 → sumFrom n l = sumFrom m l → n = m
  | [], _, _, _, _, _, _, h => h
  | c :: l, n, m, h0, h1, h2, h3, h => by
    have hn := sumStep_bd n c
    have hm := sumStep_bd m c
    exact step_inj h0 h1 h2 h3 (from_inj l hn.1 hn.2 hm.1 hm.2 h)
/-- One byte turned: another checksum. -/
theorem from_set : ∀ (l : List UInt8) (k : Nat) (d : UInt8) (h : k < l.length) {n : Int}, 0 ≤ n → n < 65521 → sumFrom n (l.set k d) = sumFrom n l → d = l[k]
  | c :: l, 0, d, _, n, h0, h1, he => by
    have hn := sumStep_bd n c
    have hm := sumStep_bd n d
    exact step_byte (from_inj l hm.1 hm.2 hn.1 hn.2 he)
  | c :: l, k + 1, d, h, n, h0, h1, he => by
    have hn := sumStep_bd n c
    exact from_set l k d (by simpa using h) hn.1 hn.2 he
theorem sumOf_set (t : ByteArray) (k : Nat) (d : UInt8) (h : k < t.size) (hd : d ≠ t[k]) : sumOf ⟨(t.data.toList.set k d).toArray⟩ ≠ sumOf t := by
  intro e
  have hl : k < t.data.toList.length := by simpa using h
  refine hd (from_set t.data.toList k d hl (n := 1 + (t.size : Int) % 997) (by omega) (by omega) ?_)
  have e1 : sumOf ⟨(t.data.toList.set k d).toArray⟩ = sumFrom (1 + (((t.data.toList.set k d).toArray.size : Nat) : Int) % 997) (t.data.toList.set k d) := rfl
  rw [e1] at e
  have e2 : (t.data.toList.set k d).toArray.size = t.size := by simp
  rw [e2] at e
  exact e

theorem digit_ne (u : Nat) : ∀ c ∈ Lib.decDigits u, c ≠ 58 := by
  induction u using Nat.strongRecOn with
  | _ u ih =>
    intro c hc
    rw [Lib.decDigits] at hc
    have small : ∀ v, v < 10 → UInt8.ofNat (48 + v) ≠ 58 := by decide
    split at hc
    · rename_i h
      simp only [List.mem_singleton] at hc
      rw [hc]; exact small u h
    · rcases List.mem_append.1 hc with hc | hc
      · exact ih (u / 10) (by omega) c hc
      · simp only [List.mem_singleton] at hc
        rw [hc]; exact small _ (by omega)
theorem index_after : ∀ (a b : List UInt8), (∀ c ∈ a, c ≠ 58) → Lib.indexByte (a ++ 58 :: b) 58 = (a.length : Int)
  | [], b, _ => by simp [Lib.indexByte]
  | c :: a, b, h => by
    have hc : c ≠ 58 := h c (by simp)
    have ih := index_after a b (fun d hd => h d (by simp [hd]))
    simp only [List.cons_append, Lib.indexByte, ih]
    rw [if_neg (by simpa using hc), if_neg (by simp)]
    simp
/-- What is sealed is opened. -/
theorem open_seal (t : ByteArray) (h : t.size ≤ 400) : openB (sealB t) = some t := by
  have hb := sumOf_bd t
  have he : sealB t = ⟨(Lib.itoa (sumOf t) ++ 58 :: t.data.toList).toArray⟩ := by unfold sealB; rw [if_neg (by omega)]
  have hd : ∀ c ∈ Lib.itoa (sumOf t), c ≠ 58 := by
    unfold Lib.itoa
    rw [if_neg (by omega)]
    exact digit_ne _
  have hi : Lib.indexByte (sealB t).data.toList 58 = ((Lib.itoa (sumOf t)).length : Int) := by
    rw [he]; exact index_after _ _ hd
  have ht : tailB (sealB t) (Lib.itoa (sumOf t)).length = t := by
    unfold tailB
    rw [he]
    show (⟨((Lib.itoa (sumOf t) ++ 58 :: t.data.toList).drop ((Lib.itoa (sumOf t)).length + 1)).toArray⟩ : ByteArray) = t
    rw [show Lib.itoa (sumOf t) ++ 58 :: t.data.toList = (Lib.itoa (sumOf t) ++ [58]) ++ t.data.toList by simp]
    rw [show (Lib.itoa (sumOf t)).length + 1 = (Lib.itoa (sumOf t) ++ [58]).length by simp, List.drop_left]
  unfold openB
  rw [if_neg (by rw [hi]; omega), hi]
  simp only [Int.toNat_natCast, ht, if_true]
/-- Only what is sealed is opened. -/
theorem seal_of_open {s t : ByteArray} (h : openB s = some t) : sealB t = s := by
  unfold openB at h
  split at h
  · cases h
  · split at h
    · rename_i h2
      rw [← Option.some.inj h]; exact h2
    · cases h
end Go.Proofs.YtgjlhokakcdpbaaGreatDoor
