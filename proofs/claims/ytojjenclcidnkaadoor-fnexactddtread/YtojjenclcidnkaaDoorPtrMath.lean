/-
  Plain mathematics of numerals between points: what they spell, and how they are cut.
-/
import Derived.Lib.ItoaNum
import Derived.Lib.ItoaMem
import Derived.Lib.AtoiAll
import Derived.Lib.IndexBytes
import Derived.Lib.IndexMore
set_option maxRecDepth 100000
namespace Go.Proofs.Palim
open Go

/-- What digits spell, behind acc. -/
def valF (acc : Nat) (l : List UInt8) : Nat := l.foldl (fun n c => n * 10 + (c.toNat - 48)) acc
theorem valF_snoc (acc : Nat) (l : List UInt8) (c : UInt8) : valF acc (l ++ [c]) = valF acc l * 10 + (c.toNat - 48) := by simp [valF]
def Digs (l : List UInt8) : Prop := ∀ c ∈ l, 48 ≤ c.toNat ∧ c.toNat ≤ 57
theorem dig_nat (m : Nat) (h : m < 10) : (UInt8.ofNat (48 + m)).toNat = 48 + m := UInt8.toNat_ofNat_of_lt' (by have : UInt8.size = 256 := rfl; omega)
theorem dd_all (m : Nat) : Digs (Lib.decDigits m) := by
  induction m using Nat.strongRecOn with
  | _ m ih =>
    intro c hc
    by_cases h : m < 10
    · rw [Lib.decDigits_one h] at hc
      obtain rfl := List.mem_singleton.1 hc
      rw [dig_nat m h]; omega
    · rw [Lib.decDigits, dif_neg h] at hc
      rcases List.mem_append.1 hc with hc | hc
      · exact ih (m / 10) (by omega) c hc
      · obtain rfl := List.mem_singleton.1 hc
        rw [dig_nat (m % 10) (by omega)]; omega
theorem dd_val (m : Nat) : valF 0 (Lib.decDigits m) = m := by
  induction m using Nat.strongRecOn with
  | _ m ih =>
    by_cases h : m < 10
    · rw [Lib.decDigits_one h]
      show 0 * 10 + ((UInt8.ofNat (48 + m)).toNat - 48) = m
      rw [dig_nat m h]; omega
    · rw [Lib.decDigits, dif_neg h, valF_snoc, ih (m / 10) (by omega), dig_nat (m % 10) (by omega)]
      omega
theorem dd_len : ∀ (k m : Nat), m < 10 ^ (k + 1) → (Lib.decDigits m).length ≤ k + 1
  | 0, m, h => by rw [Lib.decDigits_one (by omega)]; simp
  | k + 1, m, h => by
    by_cases h10 : m < 10
    · rw [Lib.decDigits_one h10]; simp
    · rw [Lib.decDigits, dif_neg h10]
      have := dd_len k (m / 10) (by rw [Nat.div_lt_iff_lt_mul (by omega)]; rw [Nat.pow_succ] at h; exact h)
      simp; omega
theorem dd_pos (m : Nat) : 0 < (Lib.decDigits m).length := by
  by_cases h : m < 10
  · rw [Lib.decDigits_one h]; simp
  · rw [Lib.decDigits, dif_neg h]; simp
/-- A numeral that begins with a nought is just that. -/
theorem dd_head (m : Nat) (h : ((Lib.decDigits m)[0]'(dd_pos m)).toNat = 48) : m = 0 := by
  induction m using Nat.strongRecOn with
  | _ m ih =>
    by_cases h10 : m < 10
    · have e : (Lib.decDigits m)[0]'(dd_pos m) = UInt8.ofNat (48 + m) := by simp [Lib.decDigits_one h10]
      rw [e, dig_nat m h10] at h
      omega
    · exfalso
      have hp := dd_pos (m / 10)
      have e : (Lib.decDigits m)[0]'(dd_pos m) = (Lib.decDigits (m / 10))[0]'hp := by
        have e2 : Lib.decDigits m = Lib.decDigits (m / 10) ++ [UInt8.ofNat (48 + m % 10)] := by rw [Lib.decDigits, dif_neg h10]
        simp [e2, List.getElem_append_left hp]
      rw [e] at h
      have := ih (m / 10) (by omega) h
      omega
theorem valF_ge : ∀ (l : List UInt8) (acc : Nat), acc ≤ valF acc l
  | [], _ => Nat.le_refl _
  | c :: l, acc => by
    have := valF_ge l (acc * 10 + (c.toNat - 48))
    show acc ≤ valF (acc * 10 + (c.toNat - 48)) l
    omega
theorem parse_digs : ∀ (l : List UInt8) (acc : Nat), Digs l → valF acc l < 1000000000000000000 → Lib.parseUint10 acc l = .ok (valF acc l)
  | [], acc, _, _ => rfl
  | c :: l, acc, hd, hv => by
    have hc := hd c (by simp)
    have hv' : valF (acc * 10 + (c.toNat - 48)) l < 1000000000000000000 := hv
    have hg := valF_ge l (acc * 10 + (c.toNat - 48))
    rw [Lib.parseUint10, if_pos hc, if_neg (by omega), if_neg (by omega)]
    exact parse_digs l _ (fun x hx => hd x (by simp [hx])) hv'
theorem atoi_digs (m : Nat) (h : m < 1000000000000000000) : Lib.atoiAll (Lib.decDigits m) = .ok (m : Int) := by
  have hd := dd_all m
  have hv := dd_val m
  have hp := dd_pos m
  cases hl : Lib.decDigits m with
  | nil => rw [hl] at hp; simp at hp
  | cons c r =>
    rw [hl] at hd hv
    have hc := hd c (by simp)
    unfold Lib.atoiAll
    simp only
    rw [if_neg (by omega), Lib.parseMag, if_neg (by simp), parse_digs _ 0 hd (by rw [hv]; omega), hv]
    simp only
    rw [if_neg (by omega), if_neg (by omega), if_neg (by omega)]
theorem dd_point (m : Nat) : (46 : UInt8) ∉ Lib.decDigits m := fun h => by
  have := dd_all m 46 h
  simp at this

theorem index_at (a r : List UInt8) (h : (46 : UInt8) ∉ a) : Lib.indexByte (a ++ 46 :: r) 46 = (a.length : Int) := by
  induction a with
  | nil => simp [Lib.indexByte]
  | cons x a ih =>
    have hx : x ≠ 46 := fun e => h (by simp [e])
    have hi := ih (fun hm => h (by simp [hm]))
    simp only [List.cons_append, Lib.indexByte]
    rw [hi]
    have h1 : (x == 46) = false := by simpa using hx
    have h2 : ((a.length : Int) == -1) = false := beq_eq_false_iff_ne.2 (by omega)
    rw [h1, h2]
    simp
theorem cut_at (a r : List UInt8) (h : (46 : UInt8) ∉ a) : Lib.cut (a ++ 46 :: r) [46] = (a, r, true) := by
  unfold Lib.cut
  rw [Lib.index_one, index_at a r h, if_pos (by omega)]
  simp

/-- The pieces of a text between points. -/
def pieces : List UInt8 → List (List UInt8)
  | [] => [[]]
  | x :: l => if x = 46 then [] :: pieces l else match pieces l with
    | p :: ps => (x :: p) :: ps
    | [] => [[x]]
theorem pieces_one (a : List UInt8) (h : (46 : UInt8) ∉ a) : pieces a = [a] := by
  induction a with
  | nil => rfl
  | cons x a ih =>
    have hx : x ≠ 46 := fun e => h (by simp [e])
    rw [pieces, if_neg hx, ih (fun hm => h (by simp [hm]))]
theorem pieces_cut (a r : List UInt8) (h : (46 : UInt8) ∉ a) : pieces (a ++ 46 :: r) = a :: pieces r := by
  induction a with
  | nil => simp [pieces]
  | cons x a ih =>
    have hx : x ≠ 46 := fun e => h (by simp [e])
    rw [List.cons_append, pieces, if_neg hx, ih (fun hm => h (by simp [hm]))]
end Go.Proofs.Palim
