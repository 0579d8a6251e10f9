/-
  Texts joined into one: the draws of disks, and what they want.
-/
import Derived.WalkKit
import Derived.Test.YtglgdbnhnchabaaGreatDoorBase
import Derived.Lib.Hide
import Derived.ProofKit
import Derived.WalkSpells
import Derived.WalkSmall
import Derived.Test.YtglgdbnhnchabaaGreatDoorCoreD
import Derived.Test.YtglgdbnhnchabaaGreatDoorDdtCnt
import Derived.Test.YtglgdbnhnchabaaGreatDoorIntS
import Derived.Test.YtglgdbnhnchabaaGreatDoorSCok
import Derived.Test.YtglgdbnhnchabaaGreatDoorApp
import Derived.Shelf.Spec.TrailingZeros
import Derived.Test.YtglgdbnhnchabaaGreatDoorRows
import Derived.RangeFuncNested
import Derived.RangeFuncLeaves
import Derived.Shelf.Abstract
import Derived.Deep.RegionHeld3
import Derived.Deep.CutRange
import Derived.OwnWalkIn
import Derived.TacticsInMore
import Derived.LoopNIn
import Derived.LoopIn
import Derived.Test.YtglgdbnhnchabaaGreatDoorKBox
import Derived.Test.YtglgdbnhnchabaaGreatDoorICok
import Derived.Maps.AppendAt
import Derived.RangeFuncBox
import Derived.RangeFuncFrom

/-
  Counting the bits of a word, as math/bits counts them: the mathematics, of no program.
-/
set_option maxRecDepth 100000
namespace Go.Proofs.Palim
open Go

/-- How many of the first n bits are set. -/
def ones (n x : Nat) : Nat := (List.range n).countP (fun i => x.testBit i)
theorem ones_add (a b x : Nat) : ones (a + b) x = ones a x + ones b (x / 2 ^ a) := by
  unfold ones
  rw [List.range_add, List.countP_append, List.countP_map]
  congr 1
  refine List.countP_congr fun i _ => ?_
  simp [Function.comp, Nat.testBit_div_two_pow, Nat.add_comm]
theorem ones_mod (n x : Nat) : ones n (x % 2 ^ n) = ones n x := by
  unfold ones
  refine List.countP_congr fun i hi => ?_
  have := List.mem_range.1 hi
  simp [Nat.testBit_mod_two_pow, this]
theorem land_split (a c b d : Nat) (hb : b < 256) (hd : d < 256) : (a * 256 + b) &&& (c * 256 + d) = (a &&& c) * 256 + (b &&& d) := by
  have hbd : b &&& d < 2 ^ 8 := Nat.lt_of_le_of_lt Nat.and_le_left (by omega)
  refine Nat.eq_of_testBit_eq fun j => ?_
  rw [Nat.testBit_and, show a * 256 + b = 2 ^ 8 * a + b by omega, show c * 256 + d = 2 ^ 8 * c + d by omega, show (a &&& c) * 256 + (b &&& d) = 2 ^ 8 * (a &&& c) + (b &&& d) by omega,
    Nat.testBit_two_pow_mul_add _ (by omega), Nat.testBit_two_pow_mul_add _ (by omega), Nat.testBit_two_pow_mul_add _ hbd]
  split <;> simp [Nat.testBit_and]
/-- A byte n times. -/
def mk : Nat → Nat → Nat
  | 0, _ => 0
  | n + 1, d => mk n d * 256 + d
def s1 (n x : Nat) : Nat := ((x / 2) &&& mk n 85) + (x &&& mk n 85)
def s2 (n x : Nat) : Nat := ((x / 4) &&& mk n 51) + (x &&& mk n 51)
def s3 (n x : Nat) : Nat := (x / 16 + x) &&& mk n 15
def t1 (b : Nat) : Nat := ((b / 2) &&& 85) + (b &&& 85)
def t2 (b : Nat) : Nat := ((b / 4) &&& 51) + (b &&& 51)
def t3 (b : Nat) : Nat := b / 16 + b % 16
theorem low1 : ∀ c < 2, ∀ b < 256, (c * 128 + b / 2) &&& 85 = (b / 2) &&& 85 := by decide +kernel
theorem low2 : ∀ c < 4, ∀ b < 256, (c * 64 + b / 4) &&& 51 = (b / 4) &&& 51 := by decide +kernel
theorem low3 : ∀ c < 5, ∀ h < 5, ∀ l < 5, (c * 16 + h + (h * 16 + l)) &&& 15 = h + l := by decide +kernel
theorem t1_lt : ∀ b < 256, t1 b < 256 := by decide +kernel
theorem t2_lt : ∀ b < 256, t2 (t1 b) < 256 ∧ t2 (t1 b) / 16 < 5 ∧ t2 (t1 b) % 16 < 5 := by decide +kernel
theorem t3_ones : ∀ b < 256, t3 (t2 (t1 b)) = ones 8 b := by decide +kernel
theorem ones8_le : ∀ b < 256, ones 8 b ≤ 8 := by decide +kernel
theorem s1_step (n a b : Nat) (hb : b < 256) : s1 (n + 1) (a * 256 + b) = s1 n a * 256 + t1 b := by
  unfold s1 t1
  have e : (a * 256 + b) / 2 = (a / 2) * 256 + (a % 2 * 128 + b / 2) := by omega
  rw [e, mk, land_split _ _ _ _ (by omega) (by omega), land_split _ _ _ _ hb (by omega), low1 _ (by omega) _ hb]
  omega
theorem s2_step (n a b : Nat) (hb : b < 256) : s2 (n + 1) (a * 256 + b) = s2 n a * 256 + t2 b := by
  unfold s2 t2
  have e : (a * 256 + b) / 4 = (a / 4) * 256 + (a % 4 * 64 + b / 4) := by omega
  rw [e, mk, land_split _ _ _ _ (by omega) (by omega), land_split _ _ _ _ hb (by omega), low2 _ (by omega) _ hb]
  omega
theorem s3_step (n a b : Nat) (ha : a % 16 < 5) (h1 : b / 16 < 5) (h2 : b % 16 < 5) : s3 (n + 1) (a * 256 + b) = s3 n a * 256 + t3 b := by
  unfold s3 t3
  have e : (a * 256 + b) / 16 + (a * 256 + b) = (a / 16 + a) * 256 + (a % 16 * 16 + b / 16 + (b / 16 * 16 + b % 16)) := by omega
  rw [e, mk, land_split _ _ _ _ (by omega) (by omega), low3 _ ha _ h1 _ h2]
theorem s12_low (n a : Nat) : s2 n (s1 n a) % 16 < 5 := by
  cases n with
  | zero => simp [s2, s1, mk]
  | succ n =>
    have e : a = a / 256 * 256 + a % 256 := by omega
    have hb : a % 256 < 256 := Nat.mod_lt _ (by omega)
    rw [e, s1_step n _ _ hb, s2_step n _ _ (t1_lt _ hb)]
    have := (t2_lt _ hb).2.2
    omega
/-- The bits of the bytes, a byte each. -/
def packed : Nat → Nat → Nat
  | 0, _ => 0
  | n + 1, x => packed n (x / 256) * 256 + ones 8 (x % 256)
theorem swar (n : Nat) : ∀ x, s3 n (s2 n (s1 n x)) = packed n x := by
  induction n with
  | zero => intro x; simp [s1, s2, s3, mk, packed]
  | succ n ih =>
    intro x
    have e : x = x / 256 * 256 + x % 256 := by omega
    have hb : x % 256 < 256 := Nat.mod_lt _ (by omega)
    have h := t2_lt _ hb
    rw [e, s1_step n _ _ hb, s2_step n _ _ (t1_lt _ hb), s3_step n _ _ (s12_low n _) h.2.1 h.2.2, ih, t3_ones _ hb, packed]
    rw [show (x / 256 * 256 + x % 256) / 256 = x / 256 by omega, show (x / 256 * 256 + x % 256) % 256 = x % 256 by omega]
theorem hi (a b m d k : Nat) (hk : m = d * k) (hb : b < d) : (a * m + b) / d = a * k := by
  subst hk
  rw [show a * (d * k) + b = b + d * (a * k) by rw [Nat.add_comm, Nat.mul_left_comm], Nat.add_mul_div_left _ _ (by omega), Nat.div_eq_of_lt hb, Nat.zero_add]
theorem fold8 (p0 p1 p2 p3 p4 p5 p6 p7 x x1 x2 x3 : Nat) (h0 : p0 ≤ 8) (h1 : p1 ≤ 8) (h2 : p2 ≤ 8) (h3 : p3 ≤ 8) (h4 : p4 ≤ 8) (h5 : p5 ≤ 8) (h6 : p6 ≤ 8) (h7 : p7 ≤ 8)
    (hx : x = (((((((0 * 256 + p7) * 256 + p6) * 256 + p5) * 256 + p4) * 256 + p3) * 256 + p2) * 256 + p1) * 256 + p0)
    (e1 : x1 = x + x / 256) (e2 : x2 = x1 + x1 / 65536) (e3 : x3 = x2 + x2 / 4294967296) : x3 % 128 = p0 + p1 + p2 + p3 + p4 + p5 + p6 + p7 ∧ x3 < 18446744073709551616 := by
  obtain ⟨q, hq⟩ : ∃ q, q = ((((((0 * 256 + p7) * 256 + p6) * 256 + p5) * 256 + p4) * 256 + p3) * 256 + p2) * 256 + p1 := ⟨_, rfl⟩
  have a1 : x / 256 = q := by rw [← hq] at hx; omega
  rw [a1] at e1
  obtain ⟨r, hr⟩ : ∃ r, r = ((((0 * 256 + p7) * 256 + (p7 + p6)) * 256 + (p6 + p5)) * 256 + (p5 + p4)) * 256 + (p4 + p3) := ⟨_, rfl⟩
  have f1 : x1 = (r * 256 + (p3 + p2)) * 65536 + ((p2 + p1) * 256 + (p1 + p0)) := by omega
  have a2 : x1 / 65536 = r * 256 + (p3 + p2) := by clear hx hq e1 hr e2 e3 a1; omega
  rw [a2] at e2
  obtain ⟨u, hu⟩ : ∃ u, u = (((0 * 256 + p7) * 256 + (p7 + p6)) * 256 + (p7 + p6 + p5)) * 256 + (p7 + p6 + p5 + p4) := ⟨_, rfl⟩
  have f2 : x2 = u * 4294967296 + ((((p6 + p5 + p4 + p3) * 256 + (p5 + p4 + p3 + p2)) * 256 + (p4 + p3 + p2 + p1)) * 256 + (p3 + p2 + p1 + p0)) := by clear hx hq e1 a1 a2 e3; omega
  have a3 : x2 / 4294967296 = u := by clear hx hq e1 hr e2 e3 a1 a2 f1 hu; omega
  rw [a3] at e3
  clear hx hq e1 hr e2 a1 a2 a3 f1
  have hub : u < 600000000 := by omega
  constructor
  · omega
  · omega
/-- What math/bits.OnesCount64 computes. -/
theorem onesCount (x x1 x2 x3 : Nat) (hx : x < 2 ^ 64) (e1 : x1 = s3 8 (s2 8 (s1 8 x)) + s3 8 (s2 8 (s1 8 x)) / 256) (e2 : x2 = x1 + x1 / 65536) (e3 : x3 = x2 + x2 / 4294967296) : x3 % 128 = ones 64 x ∧ x3 < 18446744073709551616 := by
  rw [swar] at e1
  have hb : ∀ y, ones 8 (y % 256) ≤ 8 := fun y => ones8_le _ (Nat.mod_lt _ (by omega))
  have hp : packed 8 x = (((((((0 * 256 + ones 8 (x / 256 / 256 / 256 / 256 / 256 / 256 / 256 % 256)) * 256 + ones 8 (x / 256 / 256 / 256 / 256 / 256 / 256 % 256)) * 256 + ones 8 (x / 256 / 256 / 256 / 256 / 256 % 256)) * 256 + ones 8 (x / 256 / 256 / 256 / 256 % 256)) * 256 + ones 8 (x / 256 / 256 / 256 % 256)) * 256 + ones 8 (x / 256 / 256 % 256)) * 256 + ones 8 (x / 256 % 256)) * 256 + ones 8 (x % 256) := rfl
  have h8 : ∀ y, ones 8 (y % 256) = ones 8 y := fun y => ones_mod 8 y
  have hs : ones 64 x = ones 8 (x % 256) + ones 8 (x / 256 % 256) + ones 8 (x / 256 / 256 % 256) + ones 8 (x / 256 / 256 / 256 % 256) + ones 8 (x / 256 / 256 / 256 / 256 % 256) + ones 8 (x / 256 / 256 / 256 / 256 / 256 % 256) + ones 8 (x / 256 / 256 / 256 / 256 / 256 / 256 % 256) + ones 8 (x / 256 / 256 / 256 / 256 / 256 / 256 / 256 % 256) := by
    have q : ∀ n y, ones (8 + n) y = ones 8 (y % 256) + ones n (y / 256) := fun n y => by rw [ones_add, h8]
    rw [show (64 : Nat) = 8 + 56 by rfl, q, show (56 : Nat) = 8 + 48 by rfl, q, show (48 : Nat) = 8 + 40 by rfl, q, show (40 : Nat) = 8 + 32 by rfl, q, show (32 : Nat) = 8 + 24 by rfl, q, show (24 : Nat) = 8 + 16 by rfl, q, show (16 : Nat) = 8 + 8 by rfl, q, ← h8 (x / 256 / 256 / 256 / 256 / 256 / 256 / 256)]
    omega
  have := fold8 _ _ _ _ _ _ _ _ _ x1 x2 x3 (hb _) (hb _) (hb _) (hb _) (hb _) (hb _) (hb _) (hb _) hp e1 e2 e3
  rw [hs]
  exact this
end Go.Proofs.Palim

/-
  math/bits.OnesCount64.
-/
set_option maxRecDepth 100000
namespace Go.Proofs.Palim
open Go
theorem u64_bits : IntKind.u64.bits = 64 := rfl
theorem wrap_u64 (n : Nat) (h : n < 2 ^ 64) : IntKind.wrap .u64 (n : Int) = (n : Int) := by
  rw [IntKind.wrap_u64]
  omega
theorem bits_and_nat (a b : Nat) (ha : a < 2 ^ 64) (hb : b < 2 ^ 64) : bits .and .u64 (a : Int) (b : Int) = ((a &&& b : Nat) : Int) := by
  have h1 : (BitVec.ofInt 64 (a : Int) &&& BitVec.ofInt 64 (b : Int)).toNat = a &&& b := by
    rw [BitVec.toNat_and, BitVec.ofInt_natCast, BitVec.ofInt_natCast, BitVec.toNat_ofNat, BitVec.toNat_ofNat, Nat.mod_eq_of_lt ha, Nat.mod_eq_of_lt hb]
  show IntKind.wrap .u64 (((BitVec.ofInt 64 (a : Int) &&& BitVec.ofInt 64 (b : Int)).toNat : Nat) : Int) = _
  rw [h1]
  exact wrap_u64 _ (Nat.lt_of_le_of_lt Nat.and_le_left ha)
theorem bits_or_nat (a b : Nat) (ha : a < 2 ^ 64) (hb : b < 2 ^ 64) : bits .or .u64 (a : Int) (b : Int) = ((a ||| b : Nat) : Int) := by
  have h1 : (BitVec.ofInt 64 (a : Int) ||| BitVec.ofInt 64 (b : Int)).toNat = a ||| b := by
    rw [BitVec.toNat_or, BitVec.ofInt_natCast, BitVec.ofInt_natCast, BitVec.toNat_ofNat, BitVec.toNat_ofNat, Nat.mod_eq_of_lt ha, Nat.mod_eq_of_lt hb]
  show IntKind.wrap .u64 (((BitVec.ofInt 64 (a : Int) ||| BitVec.ofInt 64 (b : Int)).toNat : Nat) : Int) = _
  rw [h1]
  exact wrap_u64 _ (Nat.or_lt_two_pow ha hb)
/-- a without the bits of b. -/
def nandB (a b : Nat) : Nat := (BitVec.ofNat 64 a &&& ~~~ BitVec.ofNat 64 b).toNat
theorem bits_andNot_nat (a b : Nat) : bits .andNot .u64 (a : Int) (b : Int) = ((nandB a b : Nat) : Int) := by
  show IntKind.wrap .u64 (((BitVec.ofInt 64 (a : Int) &&& ~~~ BitVec.ofInt 64 (b : Int)).toNat : Nat) : Int) = _
  rw [BitVec.ofInt_natCast, BitVec.ofInt_natCast]
  exact wrap_u64 _ (BitVec.isLt _)
theorem nandB_lt (a b : Nat) : nandB a b < 2 ^ 64 := BitVec.isLt _
theorem nandB_bit (a b i : Nat) (hi : i < 64) : (nandB a b).testBit i = (a.testBit i && !b.testBit i) := by
  unfold nandB
  rw [BitVec.testBit_toNat, BitVec.getLsbD_and, BitVec.getLsbD_not, BitVec.getLsbD_ofNat, BitVec.getLsbD_ofNat]
  simp [hi]
theorem bits_and_i64 (a : Nat) (ha : a < 2 ^ 63) : bits .and .i64 (a : Int) 127 = ((a % 128 : Nat) : Int) := by
  have h1 : (BitVec.ofInt 64 (a : Int) &&& BitVec.ofInt 64 (127 : Int)).toNat = a % 128 := by
    rw [BitVec.toNat_and, BitVec.ofInt_natCast, BitVec.toNat_ofNat, Nat.mod_eq_of_lt (by omega)]
    show a &&& 127 = a % 128
    exact Nat.and_two_pow_sub_one_eq_mod a 7
  show IntKind.wrap .i64 (((BitVec.ofInt 64 (a : Int) &&& BitVec.ofInt 64 (127 : Int)).toNat : Nat) : Int) = _
  rw [h1, IntKind.wrap_i64]
  omega
end Go.Proofs.Palim
namespace Go.Proofs.YtglgdbnhnchabaaGreatDoor
open Go.ChangeShapes Go.WideShapes Go.ChangeAt Go.RowKit Go.Proofs.Palim

theorem mk85 : mk 8 85 = 6148914691236517205 := rfl
theorem mk51 : mk 8 51 = 3689348814741910323 := rfl
theorem mk15 : mk 8 15 = 1085102592571150095 := rfl
theorem packed_lt (n : Nat) : ∀ x, packed (n + 1) x < 9 * 256 ^ n := by
  induction n with
  | zero =>
    intro x
    have h8 := ones8_le (x % 256) (Nat.mod_lt _ (by omega))
    simp only [packed, Nat.pow_zero]
    omega
  | succ n ih =>
    intro x
    have h := ih (x / 256)
    have h8 := ones8_le (x % 256) (Nat.mod_lt _ (by omega))
    rw [packed, Nat.pow_succ]
    omega

end Go.Proofs.YtglgdbnhnchabaaGreatDoor

/-
  Sets of sectors as the bits of two words, and how many there are: the mathematics, of no program.
-/
set_option maxRecDepth 100000
namespace Go.Proofs.Palim
open Go

def bit2 (x0 x1 i : Nat) : Bool := if i < 64 then x0.testBit i else x1.testBit (i - 64)
/-- The two words hold the set P. -/
structure BitsR (x0 x1 : Nat) (P : Nat → Bool) : Prop where
  l0 : x0 < 2 ^ 64
  l1 : x1 < 2 ^ 64
  at_ : ∀ i, i < 128 → bit2 x0 x1 i = P i
theorem bits_zero : BitsR 0 0 (fun _ => false) := ⟨by omega, by omega, fun i _ => by simp [bit2]⟩
def addB (P : Nat → Bool) (a : Int) (i : Nat) : Bool := P i || decide (13 ≤ a ∧ a < 120 ∧ (i : Int) = a)
theorem addB_out {P : Nat → Bool} {a : Int} (h : ¬ (13 ≤ a ∧ a < 120)) : addB P a = P := by
  funext i
  unfold addB
  rw [decide_eq_false (fun c => h ⟨c.1, c.2.1⟩), Bool.or_false]
theorem bits_add0 {x0 x1 : Nat} {P : Nat → Bool} (h : BitsR x0 x1 P) {n : Nat} (h1 : 13 ≤ n) (h2 : n < 64) : BitsR (x0 ||| 2 ^ n) x1 (addB P n) := by
  refine ⟨Nat.or_lt_two_pow h.l0 (Nat.pow_lt_pow_right (by omega) h2), h.l1, fun i hi => ?_⟩
  have := h.at_ i hi
  unfold bit2 addB at *
  split
  · rename_i hi6
    rw [if_pos hi6] at this
    rw [Nat.testBit_or, this, Nat.testBit_two_pow]
    congr 1
    by_cases e : n = i
    · subst e; simp; omega
    · rw [decide_eq_false e, decide_eq_false (fun c => by omega)]
  · rename_i hi6
    rw [if_neg hi6] at this
    rw [this, decide_eq_false (fun c => by omega), Bool.or_false]
theorem bits_add1 {x0 x1 : Nat} {P : Nat → Bool} (h : BitsR x0 x1 P) {n : Nat} (h1 : 64 ≤ n) (h2 : n < 120) : BitsR x0 (x1 ||| 2 ^ (n - 64)) (addB P n) := by
  refine ⟨h.l0, Nat.or_lt_two_pow h.l1 (Nat.pow_lt_pow_right (by omega) (by omega)), fun i hi => ?_⟩
  have := h.at_ i hi
  unfold bit2 addB at *
  split
  · rename_i hi6
    rw [if_pos hi6] at this
    rw [this, decide_eq_false (fun c => by omega), Bool.or_false]
  · rename_i hi6
    rw [if_neg hi6] at this
    rw [Nat.testBit_or, this, Nat.testBit_two_pow]
    congr 1
    by_cases e : n = i
    · subst e; simp; omega
    · rw [decide_eq_false (by omega), decide_eq_false (fun c => by omega)]
theorem bits_and {x0 x1 y0 y1 : Nat} {P Q : Nat → Bool} (h : BitsR x0 x1 P) (k : BitsR y0 y1 Q) : BitsR (x0 &&& y0) (x1 &&& y1) (fun i => P i && Q i) := by
  refine ⟨Nat.lt_of_le_of_lt Nat.and_le_left h.l0, Nat.lt_of_le_of_lt Nat.and_le_left h.l1, fun i hi => ?_⟩
  have a := h.at_ i hi
  have b := k.at_ i hi
  unfold bit2 at *
  split <;> rename_i hi6
  · rw [if_pos hi6] at a b; rw [Nat.testBit_and, a, b]
  · rw [if_neg hi6] at a b; rw [Nat.testBit_and, a, b]
theorem bits_nand {x0 x1 y0 y1 : Nat} {P Q : Nat → Bool} (h : BitsR x0 x1 P) (k : BitsR y0 y1 Q) : BitsR (nandB x0 y0) (nandB x1 y1) (fun i => P i && !Q i) := by
  refine ⟨nandB_lt _ _, nandB_lt _ _, fun i hi => ?_⟩
  have a := h.at_ i hi
  have b := k.at_ i hi
  unfold bit2 at *
  split <;> rename_i hi6
  · rw [if_pos hi6] at a b; rw [nandB_bit _ _ _ hi6, a, b]
  · rw [if_neg hi6] at a b; rw [nandB_bit _ _ _ (by omega), a, b]
theorem bits_ext {x0 x1 : Nat} {P Q : Nat → Bool} (h : BitsR x0 x1 P) (e : ∀ i, i < 128 → P i = Q i) : BitsR x0 x1 Q := ⟨h.l0, h.l1, fun i hi => by rw [h.at_ i hi, e i hi]⟩
/-- How many of the first m sectors are in the set. -/
def cntB (P : Nat → Bool) (m : Nat) : Nat := (List.range m).countP P
theorem cntB_succ (P : Nat → Bool) (m : Nat) : cntB P (m + 1) = cntB P m + if P m then 1 else 0 := by
  unfold cntB
  rw [List.range_succ, List.countP_append, List.countP_cons]
  simp
theorem cntB_le (P : Nat → Bool) (m : Nat) : cntB P m ≤ m := by
  have := List.countP_le_length (p := P) (l := List.range m)
  rw [List.length_range] at this
  exact this
theorem cntB_ext {P Q : Nat → Bool} {m : Nat} (h : ∀ i, i < m → P i = Q i) : cntB P m = cntB Q m := by
  unfold cntB
  exact List.countP_congr fun i hi => by rw [h i (List.mem_range.1 hi)]
theorem cntB_zero {P : Nat → Bool} {m : Nat} (h : ∀ i, i < m → P i = false) : cntB P m = 0 := by
  unfold cntB
  rw [List.countP_eq_zero]
  intro i hi
  rw [h i (List.mem_range.1 hi)]
  simp
theorem cntB_more {P : Nat → Bool} {m k : Nat} (h : ∀ i, m ≤ i → P i = false) : cntB P (m + k) = cntB P m := by
  induction k with
  | zero => rfl
  | succ k ih => rw [← Nat.add_assoc, cntB_succ, ih, h (m + k) (by omega)]; rfl
theorem bits_count {x0 x1 : Nat} {P : Nat → Bool} (h : BitsR x0 x1 P) : ones 64 x0 + ones 64 x1 = cntB P 128 := by
  unfold ones cntB
  rw [show (128 : Nat) = 64 + 64 by rfl, List.range_add, List.countP_append, List.countP_map]
  congr 1
  · refine List.countP_congr fun i hi => ?_
    have hi := List.mem_range.1 hi
    have := h.at_ i (by omega)
    unfold bit2 at this
    rw [if_pos hi] at this
    rw [this]
  · refine List.countP_congr fun i hi => ?_
    have hi := List.mem_range.1 hi
    have := h.at_ (64 + i) (by omega)
    unfold bit2 at this
    rw [if_neg (by omega), Nat.add_sub_cancel_left] at this
    rw [this]
    rfl
end Go.Proofs.Palim

/-
  The lowest bit of a word, and a word's bits as a list: the mathematics, of no program.
-/
namespace Go.Proofs.Palim
open Go

theorem low_exists : ∀ (n x : Nat), x ≤ n → x ≠ 0 → ∃ k m, x = 2 ^ k * (2 * m + 1)
  | 0, x, h, h0 => absurd (Nat.le_zero.1 h) h0
  | n + 1, x, h, h0 => by
    by_cases he : x % 2 = 1
    · exact ⟨0, x / 2, by omega⟩
    · obtain ⟨k, m, e⟩ := low_exists n (x / 2) (by omega) (by omega)
      refine ⟨k + 1, m, ?_⟩
      have h2 : x = 2 * (x / 2) := by omega
      rw [Nat.pow_succ, Nat.mul_comm (2 ^ k) 2, Nat.mul_assoc, ← e]
      exact h2
theorem low_bit (k m i : Nat) : (2 ^ k * (2 * m + 1)).testBit i = if i < k then false else (2 * m + 1).testBit (i - k) := by
  have h := Nat.testBit_two_pow_mul_add (2 * m + 1) (show 0 < 2 ^ k from Nat.two_pow_pos k) i
  rw [Nat.add_zero] at h
  rw [h]
  simp
theorem low_pred (k m i : Nat) : (2 ^ k * (2 * m + 1) - 1).testBit i = if i < k then true else if i = k then false else (2 ^ k * (2 * m + 1)).testBit i := by
  have hp : 0 < 2 ^ k := Nat.two_pow_pos k
  have e : 2 ^ k * (2 * m + 1) - 1 = 2 ^ k * (2 * m) + (2 ^ k - 1) := by rw [Nat.mul_add, Nat.mul_one]; omega
  rw [e, Nat.testBit_two_pow_mul_add _ (by omega) i, low_bit]
  by_cases h : i < k
  · rw [if_pos h, if_pos h, Nat.testBit_two_pow_sub_one, decide_eq_true h]
  · rw [if_neg h, if_neg h, if_neg h]
    by_cases h2 : i = k
    · rw [if_pos h2, h2, Nat.sub_self, Nat.testBit_zero]
      simp
    · rw [if_neg h2]
      obtain ⟨d, hd⟩ : ∃ d, i - k = d + 1 := ⟨i - k - 1, by omega⟩
      rw [hd, Nat.testBit_succ, Nat.testBit_succ]
      congr 1
      try omega
theorem low_self (k m : Nat) : (2 ^ k * (2 * m + 1)).testBit k = true := by
  rw [low_bit, if_neg (Nat.lt_irrefl _), Nat.sub_self, Nat.testBit_zero]
  simp
theorem low_under (k m i : Nat) (h : i < k) : (2 ^ k * (2 * m + 1)).testBit i = false := by rw [low_bit, if_pos h]
/-- The word without its lowest bit. -/
theorem low_clear (k m i : Nat) : (2 ^ k * (2 * m + 1) &&& (2 ^ k * (2 * m + 1) - 1)).testBit i = ((2 ^ k * (2 * m + 1)).testBit i && decide (i ≠ k)) := by
  rw [Nat.testBit_and, low_pred]
  by_cases h : i < k
  · rw [if_pos h, low_under k m i h]; simp
  · rw [if_neg h]
    by_cases h2 : i = k
    · rw [if_pos h2]; simp [h2]
    · rw [if_neg h2, decide_eq_true h2]; simp
/-- Its lowest bit alone. -/
theorem low_only {k m : Nat} (h : 2 ^ k * (2 * m + 1) < 2 ^ 64) : 2 ^ k * (2 * m + 1) &&& (2 ^ 64 - 2 ^ k * (2 * m + 1)) = 2 ^ k := by
  have hp : 0 < 2 ^ k := Nat.two_pow_pos k
  have h1 : 0 < 2 ^ k * (2 * m + 1) := Nat.mul_pos hp (by omega)
  refine Nat.eq_of_testBit_eq fun i => ?_
  have e : 2 ^ 64 - 2 ^ k * (2 * m + 1) = 2 ^ 64 - ((2 ^ k * (2 * m + 1) - 1) + 1) := by omega
  rw [Nat.testBit_and, e, Nat.testBit_two_pow_sub_succ (by omega), low_pred, Nat.testBit_two_pow]
  by_cases hk : i < k
  · rw [low_under k m i hk, if_pos hk, decide_eq_false (show ¬ k = i by omega)]; simp
  · rw [if_neg hk]
    by_cases h2 : i = k
    · subst h2
      have hi : i < 64 := by
        refine Classical.byContradiction fun hc => ?_
        have : 2 ^ 64 ≤ 2 ^ i := Nat.pow_le_pow_right (by omega) (by omega)
        have h3 : 2 ^ i * 1 ≤ 2 ^ i * (2 * m + 1) := Nat.mul_le_mul_left _ (by omega)
        omega
      rw [low_self, if_pos rfl]; simp [hi]
    · rw [if_neg h2, decide_eq_false (show ¬ k = i from fun c => h2 c.symm)]
      cases (2 ^ k * (2 * m + 1)).testBit i <;> simp
theorem low_lt {k m : Nat} (h : 2 ^ k * (2 * m + 1) < 2 ^ 64) : k < 64 := by
  refine Classical.byContradiction fun hc => ?_
  have : 2 ^ 64 ≤ 2 ^ k := Nat.pow_le_pow_right (by omega) (by omega)
  have h3 : 2 ^ k * 1 ≤ 2 ^ k * (2 * m + 1) := Nat.mul_le_mul_left _ (by omega)
  omega
/-- A word's bits, ascending. -/
def bitsL (x : Nat) : List Nat := (List.range 64).filter (fun i => x.testBit i)
theorem filter_first {p q : Nat → Bool} {k n : Nat} (hk : k < n) (hp : p k = true) (hu : ∀ i, i < k → p i = false) (hq : ∀ i, q i = (p i && decide (i ≠ k))) : (List.range n).filter p = k :: (List.range n).filter q := by
  obtain ⟨r, rfl⟩ : ∃ r, n = k + (1 + r) := ⟨n - k - 1, by omega⟩
  rw [List.range_add, List.range_add, List.filter_append, List.filter_append]
  have h0 : (List.range k).filter p = [] := by
    rw [List.filter_eq_nil_iff]; intro i hi; rw [hu i (List.mem_range.1 hi)]; simp
  have h1 : (List.range k).filter q = [] := by
    rw [List.filter_eq_nil_iff]; intro i hi; rw [hq, hu i (List.mem_range.1 hi)]; simp
  rw [h0, h1, List.nil_append, List.nil_append, show List.range 1 = [0] from rfl, List.map_append, List.filter_append, List.filter_append]
  have h2 : (List.map (fun x => k + x) [0]).filter p = [k] := by simp [hp]
  have h3 : (List.map (fun x => k + x) [0]).filter q = [] := by simp [hq]
  rw [h2, h3, List.nil_append, List.singleton_append]
  congr 1
  refine List.filter_congr fun i hi => ?_
  obtain ⟨j, hj, rfl⟩ := List.mem_map.1 hi
  obtain ⟨j', _, rfl⟩ := List.mem_map.1 hj
  rw [hq, decide_eq_true (by omega), Bool.and_true]
theorem bitsL_zero : bitsL 0 = [] := by
  unfold bitsL; rw [List.filter_eq_nil_iff]; intro i _; simp
theorem bitsL_low {k m : Nat} (h : 2 ^ k * (2 * m + 1) < 2 ^ 64) : bitsL (2 ^ k * (2 * m + 1)) = k :: bitsL (2 ^ k * (2 * m + 1) &&& (2 ^ k * (2 * m + 1) - 1)) :=
  filter_first (low_lt h) (low_self k m) (fun i hi => low_under k m i hi) (fun i => low_clear k m i)
/-- The members of a set of sectors, ascending. -/
def listB (P : Nat → Bool) (m : Nat) : List Nat := (List.range m).filter P
theorem bits_list {x0 x1 : Nat} {P : Nat → Bool} (h : BitsR x0 x1 P) : bitsL x0 ++ (bitsL x1).map (64 + ·) = listB P 128 := by
  unfold bitsL listB
  rw [show (128 : Nat) = 64 + 64 from rfl, List.range_add, List.filter_append, List.filter_map]
  congr 1
  · refine List.filter_congr fun i hi => ?_
    have hi := List.mem_range.1 hi
    have := h.at_ i (by omega)
    unfold bit2 at this
    rw [if_pos hi] at this
    exact this
  · congr 1
    refine List.filter_congr fun i hi => ?_
    have hi := List.mem_range.1 hi
    have := h.at_ (64 + i) (by omega)
    unfold bit2 at this
    rw [if_neg (by omega), Nat.add_sub_cancel_left] at this
    exact this
theorem listB_succ (P : Nat → Bool) (m : Nat) : listB P (m + 1) = listB P m ++ if P m then [m] else [] := by
  unfold listB
  rw [List.range_succ, List.filter_append]
  by_cases h : P m = true <;> simp [h]
theorem listB_length (P : Nat → Bool) (m : Nat) : (listB P m).length = cntB P m := by
  unfold listB cntB
  rw [List.countP_eq_length_filter]
end Go.Proofs.Palim

/-
  The sectors of a core: stored, safe, free.
-/
set_option maxRecDepth 100000
namespace Go.Proofs.YtglgdbnhnchabaaGreatDoor
open Go Go.Proofs.Palim

noncomputable def storedB (ls : List EntM) (i : Nat) : Bool := ls.any fun e => decide (13 ≤ e.at_ ∧ e.at_ < 120 ∧ (i : Int) = e.at_)
noncomputable def safeB (ls : List Int) (i : Nat) : Bool := ls.any fun a => decide (13 ≤ a ∧ a < 120 ∧ (i : Int) = a)
def thereB (n : Int) (i : Nat) : Bool := decide (13 ≤ i ∧ (i : Int) < n)
theorem stored_snoc {ls : List EntM} {k : Nat} (h : k < ls.length) : addB (storedB (ls.take k)) ls[k].at_ = storedB (ls.take (k + 1)) := by
  funext i
  unfold addB storedB
  rw [List.take_succ_eq_append_getElem h, List.any_append]
  simp
theorem safe_snoc {ls : List Int} {k : Nat} (h : k < ls.length) : addB (safeB (ls.take k)) ls[k] = safeB (ls.take (k + 1)) := by
  funext i
  unfold addB safeB
  rw [List.take_succ_eq_append_getElem h, List.any_append]
  simp
theorem there_snoc {m : Nat} (h1 : 13 ≤ m) (h2 : m < 120) : addB (thereB (m : Int)) (m : Int) = thereB ((m + 1 : Nat) : Int) := by
  funext i
  unfold addB thereB
  by_cases e : i = m
  · subst e
    rw [decide_eq_true (show 13 ≤ (i : Int) ∧ (i : Int) < 120 ∧ (i : Int) = (i : Int) from ⟨by omega, by omega, rfl⟩), Bool.or_true, decide_eq_true (by omega)]
  · rw [decide_eq_false (show ¬ (13 ≤ (m : Int) ∧ (m : Int) < 120 ∧ (i : Int) = (m : Int)) from fun c => e (by omega)), Bool.or_false]
    by_cases h : 13 ≤ i ∧ (i : Int) < (m : Int)
    · rw [decide_eq_true h, decide_eq_true (by omega)]
    · rw [decide_eq_false h, decide_eq_false (by omega)]
theorem there_low {n : Int} (h : n ≤ 13) : thereB n = fun _ => false := by
  funext i
  exact decide_eq_false (by omega)
/-- The three parts. -/
noncomputable def partS (c : CoreM) (n : Int) (i : Nat) : Bool := thereB n i && storedB c.ddt i
noncomputable def partO (c : CoreM) (n : Int) (i : Nat) : Bool := (thereB n i && safeB c.safe i) && !storedB c.ddt i
noncomputable def partF (c : CoreM) (n : Int) (i : Nat) : Bool := (thereB n i && !storedB c.ddt i) && !safeB c.safe i
/-- Whether the arguments are valid. -/
def RoomOk (c : CoreM) (n : Int) : Prop := CoreOkM c ∧ n ≤ 120
noncomputable instance (c : CoreM) (n : Int) : Decidable (RoomOk c n) := Classical.propDecidable _
/-- How many sectors are stored, safe, free. -/
noncomputable def sumS (c : CoreM) (n : Int) : Nat := if RoomOk c n then cntB (partS c n) 128 else 0
noncomputable def sumO (c : CoreM) (n : Int) : Nat := if RoomOk c n then cntB (partO c n) 128 else 0
noncomputable def sumF (c : CoreM) (n : Int) : Nat := if RoomOk c n then cntB (partF c n) 128 else 0
end Go.Proofs.YtglgdbnhnchabaaGreatDoor

/-
  The sectors of a core, counted one by one.
-/
set_option maxRecDepth 100000
namespace Go.Proofs.YtglgdbnhnchabaaGreatDoor
open Go Go.Proofs.Palim

theorem at_stored {ls : List EntM} {k : Nat} {r : Bool} {m : Nat} (hok : GoodE ls ls.length) (h : AtP ls (m : Int) k) (hr : r = true ↔ ThereP ls (m : Int) k) (h1 : 13 ≤ m) (h2 : m < 120) : storedB ls m = r := by
  unfold storedB
  by_cases ht : ThereP ls (m : Int) k
  · rw [hr.2 ht]
    obtain ⟨hk, e⟩ := ht
    exact List.any_eq_true.2 ⟨_, List.getElem_mem hk, decide_eq_true ⟨by omega, by omega, e.symm⟩⟩
  · have hn := at_none hok h ht
    have hf : r = false := by
      cases r with
      | false => rfl
      | true => exact absurd (hr.1 rfl) ht
    rw [hf, List.any_eq_false]
    intro x hx hd
    obtain ⟨i, hi, rfl⟩ := List.mem_iff_getElem.1 hx
    exact hn i hi (of_decide_eq_true hd).2.2.symm
theorem mem_safe {ls : List Int} {m : Nat} (h1 : 13 ≤ m) (h2 : m < 120) : decide ((m : Int) ∈ ls) = safeB ls m := by
  unfold safeB
  by_cases h : (m : Int) ∈ ls
  · rw [decide_eq_true h]
    exact (List.any_eq_true.2 ⟨_, h, decide_eq_true ⟨by omega, by omega, rfl⟩⟩).symm
  · rw [decide_eq_false h]
    symm
    rw [List.any_eq_false]
    intro x hx hd
    have := (of_decide_eq_true hd).2.2
    exact h (this ▸ hx)
/-- Outside of what there is, nothing. -/
def ThereOf (n : Int) (P : Nat → Bool) : Prop := ∀ i, thereB n i = false → P i = false
theorem partS_there (c : CoreM) (n : Int) : ThereOf n (partS c n) := fun i h => by unfold partS; rw [h]; rfl
theorem partO_there (c : CoreM) (n : Int) : ThereOf n (partO c n) := fun i h => by unfold partO; rw [h]; rfl
theorem partF_there (c : CoreM) (n : Int) : ThereOf n (partF c n) := fun i h => by unfold partF; rw [h]; rfl
theorem cnt_start {n : Int} {P : Nat → Bool} (h : ThereOf n P) : cntB P 13 = 0 := cntB_zero fun i hi => h i (decide_eq_false (by omega))
theorem cnt_last {n : Int} {P : Nat → Bool} (h : ThereOf n P) {m : Nat} (h1 : ¬ (m : Int) < n) (h2 : m ≤ 120) : cntB P m = cntB P 128 := by
  have e : 128 = m + (128 - m) := by omega
  rw [e, cntB_more fun i hi => h i (decide_eq_false (by omega))]
theorem part_at {c : CoreM} {n : Int} {m : Nat} (h1 : 13 ≤ m) (h2 : (m : Int) < n) {st sf : Bool} (hs : storedB c.ddt m = st) (hf : safeB c.safe m = sf) :
    cntB (partS c n) (m + 1) = cntB (partS c n) m + (if st then 1 else 0) ∧ cntB (partO c n) (m + 1) = cntB (partO c n) m + (if sf && !st then 1 else 0) ∧ cntB (partF c n) (m + 1) = cntB (partF c n) m + (if !st && !sf then 1 else 0) := by
  have ht : thereB n m = true := decide_eq_true ⟨h1, h2⟩
  refine ⟨?_, ?_, ?_⟩
  · rw [cntB_succ]; unfold partS; rw [ht, hs]; simp
  · rw [cntB_succ]; unfold partO; rw [ht, hs, hf]; simp
  · rw [cntB_succ]; unfold partF; rw [ht, hs, hf]; simp
/-- Whether the room is enough. -/
def MayM (c : CoreM) (n : Int) : Prop := RoomOk c n ∧ 16 < sumF c n ∧ 32 ≤ n - 13 - (c.ddt.length : Int) - 1 ∧ c.ddt.length < 48
noncomputable instance (c : CoreM) (n : Int) : Decidable (MayM c n) := Classical.propDecidable _
theorem sums_bad {c : CoreM} {n : Int} (h : ¬ RoomOk c n) : sumS c n = 0 ∧ sumO c n = 0 ∧ sumF c n = 0 := by
  unfold sumS sumO sumF
  exact ⟨if_neg h, if_neg h, if_neg h⟩
theorem sums_good {c : CoreM} {n : Int} (h : RoomOk c n) : sumS c n = cntB (partS c n) 128 ∧ sumO c n = cntB (partO c n) 128 ∧ sumF c n = cntB (partF c n) 128 := by
  unfold sumS sumO sumF
  exact ⟨if_pos h, if_pos h, if_pos h⟩
theorem sums_le (c : CoreM) (n : Int) : sumS c n ≤ 128 ∧ sumO c n ≤ 128 ∧ sumF c n ≤ 128 := by
  by_cases h : RoomOk c n
  · obtain ⟨h1, h2, h3⟩ := sums_good h
    rw [h1, h2, h3]
    exact ⟨cntB_le _ _, cntB_le _ _, cntB_le _ _⟩
  · obtain ⟨h1, h2, h3⟩ := sums_bad h
    omega
theorem free_pos {c : CoreM} {n : Int} (h : 0 < sumF c n) : 13 < n := by
  by_cases hr : RoomOk c n
  · rw [(sums_good hr).2.2] at h
    refine Int.not_le.1 fun hle => ?_
    rw [cntB_zero fun i _ => partF_there c n i (decide_eq_false (by omega))] at h
    exact Nat.lt_irrefl _ h
  · rw [(sums_bad hr).2.2] at h
    exact absurd h (Nat.lt_irrefl _)
theorem cnt_ok (c : CoreM) (n : Int) (P : Nat → Bool) : cntB (fun i => decide (RoomOk c n) && P i) 128 = if RoomOk c n then cntB P 128 else 0 := by
  by_cases h : RoomOk c n
  · rw [if_pos h]
    exact cntB_ext fun i _ => by rw [decide_eq_true h, Bool.true_and]
  · rw [if_neg h]
    exact cntB_zero fun i _ => by rw [decide_eq_false h, Bool.false_and]
end Go.Proofs.YtglgdbnhnchabaaGreatDoor

/-
  The free sectors as a list: the mathematics.
-/
set_option maxRecDepth 100000
namespace Go.Proofs.YtglgdbnhnchabaaGreatDoor
open Go.ChangeShapes Go.WideShapes Go.ChangeAt Go.RowKit Go.Proofs.Palim

/-- Numbers as the program has them. -/
def natsI (xs : List Nat) : List Int := xs.map Int.ofNat
theorem natsI_length (xs : List Nat) : (natsI xs).length = xs.length := by simp [natsI]
theorem natsI_snoc (xs : List Nat) (k : Nat) : natsI (xs ++ [k]) = natsI xs ++ [(k : Int)] := by simp [natsI]
/-- The free sectors. -/
noncomputable def freeL (c : CoreM) (n : Int) : List Nat := if RoomOk c n then listB (partF c n) 128 else []
theorem freeL_list (c : CoreM) (n : Int) : listB (fun i => decide (RoomOk c n) && partF c n i) 128 = freeL c n := by
  unfold freeL
  by_cases h : RoomOk c n
  · rw [if_pos h]
    unfold listB
    exact List.filter_congr fun i _ => by rw [decide_eq_true h, Bool.true_and]
  · rw [if_neg h]
    unfold listB
    rw [List.filter_eq_nil_iff]
    intro i _
    rw [decide_eq_false h]
    simp
theorem freeL_len (c : CoreM) (n : Int) : (freeL c n).length ≤ 128 := by
  rw [← freeL_list, listB_length]
  exact cntB_le _ _
end Go.Proofs.YtglgdbnhnchabaaGreatDoor

/-
  The document's sectors of a core: how many, which are free, and whether there is room.
-/
set_option maxRecDepth 100000
namespace Go.Proofs.YtglgdbnhnchabaaGreatDoor
open Go.ChangeShapes Go.WideShapes Go.ChangeAt Go.RowKit Go.Proofs.Palim

set_option maxHeartbeats 1000000 in
theorem l7Has_any (v : Value) (ls : List Int) (a : Int) (r : Bool) (w : World) (h : Sl w 1 v ls.length (ics ls)) (hr : decide (a ∈ ls) = r) :
    Calls Tryz.prog 49 #[v, .int .i64 a] w fun e w' => e = .returned (.bool r) ∧ Below w.heap.size w w' := by
  obtain ⟨n, HL⟩ : ∃ n, Hid (ls.length = n) := ⟨_, Lib.hid rfl⟩
  have HR := Lib.hid hr
  clear hr
  rw [HL.out] at h
  have HS := Lib.hid h
  obtain ⟨_, A, c, rfl, _, hcm, _⟩ := h
  unfold maxLen at hcm
  have hnm : n ≤ c := by assumption
  go_enter Tryz.func49, Tryz.ntmps49
  go_wp2
  go_loopw [5] (fun i wr => ∃ (k : Nat), k ≤ n ∧ i = .int .i64 k ∧ wr = w ∧ Hid (∀ (j : Nat) (h : j < ls.length), j < k → ls[j] ≠ a)) (fun i _ => n - (RowKit.intOf i).toNat)
  case atStart => exact ⟨0, Nat.zero_le _, rfl, rfl, Lib.hid (fun j _ h => absurd h (Nat.not_lt_zero _))⟩
  case round =>
    obtain ⟨k, hk, rfl, rfl, HG⟩ := hrel
    by_cases hlt : k < n
    case pos =>
      have hl0 : k < ls.length := by rw [HL.out]; exact hlt
      obtain ⟨b, off, c', hvv, _, _, hcell⟩ := HS.out.form (by omega)
      injection hvv with e1 e2 e3
      subst e1 e3
      clear e2
      have g0 := hcell k _ (ics_at ls k hl0)
      have hk1 : (k : Int) < (n : Int) := by omega
      have HGS := Lib.hid (show ls[k] ≠ a → ∀ (j : Nat) (h : j < ls.length), j < k + 1 → ls[j] ≠ a from fun hg j hj hjk => by
        by_cases e : j = k
        · subst e; exact hg
        · exact HG.out j hj (by omega))
      have HT := Lib.hid (show ls[k] = a → true = r from fun e => by rw [← HR.out, decide_eq_true (show a ∈ ls from e ▸ List.getElem_mem hl0)])
      generalize ls[k] = y at g0 HGS HT
      clear HG hcell hl0
      by_cases hya : y = a
      case pos =>
        have HT1 := Lib.hid (HT.out hya)
        have hq : (y == a) = true := by simpa using hya
        have hq2 : decide (y = a) = true := by simpa using hya
        clear HGS HT hya
        go_wp2
        go_ret
        exact ⟨ret_boolB HT1.out, Below.refl _ _⟩
      case neg =>
        have HG1 := Lib.hid (HGS.out hya)
        have hq : (y == a) = false := by simpa using hya
        have hq2 : decide (y = a) = false := by simpa using hya
        clear HGS HT hya
        go_wp2
        go_roundw
        case rel => exact ⟨k + 1, by omega, by go_num, by first | rfl | trivial, HG1⟩
        case measure => simp [RowKit.intOf]; omega
    case neg =>
      have HT1 := Lib.hid (show false = r from by
        rw [← HR.out, decide_eq_false]
        intro hm
        obtain ⟨i, hi, e⟩ := List.mem_iff_getElem.1 hm
        exact HG.out i hi (by rw [HL.out] at hi; omega) e)
      have hkn : ¬ (k : Int) < (n : Int) := by omega
      clear HG
      go_wp2
      go_ret
      exact ⟨ret_boolB HT1.out, Below.refl _ _⟩

theorem ownI_b {w w' : World} {base e sz n : Nat} {v : Value} {xs : List Value} (h : w.ownsRow base e sz v n xs) (hb : Below w.heap.size w w') : w'.ownsRow base e sz v n xs := own_kept h (fun b e => hb.block b (h.lt b e).2)
theorem sl_intR (w : World) (x : Int) (e : Nat) : Sl (w.alloc (.cells #[.int .i64 x] e)) 1 (.slice (some ⟨w.heap.size, 0, none⟩) 1 1) 1 [.int .i64 x] := by
  refine ⟨rfl, _, _, rfl, Nat.le_refl _, by unfold maxLen; omega, Or.inr ⟨w.heap.size, 0, rfl, fun j u hu => ?_⟩⟩
  have := (box_new w #[.int .i64 x] e).cell j hu
  rwa [Nat.zero_add]

set_option maxHeartbeats 4000000 in
theorem l7Free_any (vs vd vp vi : Value) (c : CoreM) (n : Int) (s : Nat) (w : World) (h : CoreR w vs vd vp vi c) (hs : CoreShort c) (hro : RoomOk c n) (hn0 : -9223372036854775808 ≤ n) (hr : sumF c n = s) :
    Calls Tryz.prog 21 #[cv c vs vd vp vi, .int .i64 n] w fun e w' => ∃ A cap, e = .returned (.slice A s cap) ∧ Below w.heap.size w w' := by
  have hnot : ∀ (x : Bool) (w : World), (Op.unary .not (.bool x)).run Tryz.prog w = .ok (.bool (!x)) w := fun _ _ => rfl
  obtain ⟨i0, hi, hz0, hz1, hz2⟩ := info_parts infoInt
  have HR := Lib.hid hr
  have HS := Lib.hid hs
  have HRO := Lib.hid hro
  have hn120 := hro.2
  obtain ⟨A0, k0, A1, k1, A2, k2, A3, k3, rfl, rfl, rfl, rfl⟩ := h.forms
  have HRD := Lib.hid h
  have hn1 := Below.new1 (w := w.alloc (.cells #[.int .i64 c.txg, .slice A0 c.sets.length k0, .slice A1 c.ddt.length k1, .slice A2 c.parts.length k2, .bool c.dirty, .slice A3 c.safe.length k3, .int .i64 c.logn] 34)) (.cells #[] 3)
  have XC := Lib.hid (((kbox_new h 34).below hn1).box)
  have hb0 := Below.new1 (w := w) (.cells #[.int .i64 c.txg, .slice A0 c.sets.length k0, .slice A1 c.ddt.length k1, .slice A2 c.parts.length k2, .bool c.dirty, .slice A3 c.safe.length k3, .int .i64 c.logn] 34)
  have B := Lib.hid (hb0.trans (hn1.mono hb0.size))
  have HO := Lib.hid (show World.ownsRow _ (w.heap.size + 1) 3 1 (.slice (some ⟨w.heap.size + 1, 0, none⟩) 0 0) 0 [] from by have := World.ownsRow_made (e := 3) (w.alloc (.cells #[.int .i64 c.txg, .slice A0 c.sets.length k0, .slice A1 c.ddt.length k1, .slice A2 c.parts.length k2, .bool c.dirty, .slice A3 c.safe.length k3, .int .i64 c.logn] 34)) #[] 0 (Nat.le_refl _) (by unfold maxLen; omega) (rfl : (0 : Nat) * 1 = 0); simpa using this)
  clear h hs hro hr hn1 hb0
  go_enter Tryz.func21, Tryz.ntmps21
  go_wp2
  obtain ⟨W0, HWE⟩ : ∃ W0, (w.alloc (.cells #[.int .i64 c.txg, .slice A0 c.sets.length k0, .slice A1 c.ddt.length k1, .slice A2 c.parts.length k2, .bool c.dirty, .slice A3 c.safe.length k3, .int .i64 c.logn] 34)).alloc (.cells #[] 3) = W0 := ⟨_, rfl⟩
  rw [HWE] at XC B HO ⊢
  clear HWE
  have HC0 := Lib.hid (show 0 = cntB (partF c n) 13 from (cnt_start (partF_there c n)).symm)
  go_loopw [5, 6, 7, 8] (fun lv i _ _ wr => ∃ (m k : Nat) (A : Option Addr) (cap : Nat) (xs : List Value), 13 ≤ m ∧ k ≤ m ∧ i = .int .i64 m ∧ (m = 13 ∨ (m : Int) ≤ n) ∧ lv = .slice A k cap ∧ Hid (k = cntB (partF c n) m) ∧ Hid (wr.ownsRow (w.heap.size + 1) 3 1 (.slice A k cap) k xs) ∧ Hid (Box wr w.heap.size (kcore c (.slice A0 c.sets.length k0) (.slice A1 c.ddt.length k1) (.slice A2 c.parts.length k2) (.slice A3 c.safe.length k3))) ∧ Hid (Below w.heap.size w wr)) (fun _ i _ _ _ => 121 - (RowKit.intOf i).toNat)
  case atStart => exact ⟨13, 0, _, _, _, Nat.le_refl _, Nat.zero_le _, rfl, Or.inl rfl, rfl, HC0, HO, XC, B⟩
  case round =>
    clear XC B HO HC0
    obtain ⟨m, k, A, cap, xs, hm13, hkm, rfl, hmn, rfl, HC, HO, XC, B⟩ := hrel
    by_cases hlt : (m : Int) < n
    case pos =>
      have hm120 : m < 120 := by omega
      have n2 := XC.out.cell 2 rfl
      have n5 := XC.out.cell 5 rfl
      go_wp2_with fail
      refine (l5At_any _ c.ddt (m : Int) _ (HRD.out.below B.out).d (HRD.out.below B.out).ld).mono ?_
      rintro e w2 ⟨kk, r, rfl, hat, hth, hb⟩
      have HST := Lib.hid (at_stored HRO.out.1.2.1.2 hat hth hm13 hm120)
      have HO' := Lib.hid (ownI_b HO.out hb)
      clear hat hth HO n2 n5
      have XC' := Lib.hid (XC.out.below hb XC.out.lt)
      have B' := Lib.hid (B.out.trans (hb.mono B.out.size))
      clear XC B
      have XC := XC'
      have B := B'
      clear XC' B'
      have n5 := XC.out.cell 5 rfl
      clear hb
      cases r with
      | true =>
        have HC1 := Lib.hid (show k = cntB (partF c n) (m + 1) from by rw [(part_at hm13 hlt HST.out rfl).2.2, HC.out]; simp)
        clear HC HST
        go_wp2
        go_roundw
        case rel => exact ⟨m + 1, k, A, cap, xs, by omega, by omega, by first | rfl | go_num, Or.inr (by omega), rfl, HC1, HO', XC, B⟩
        case measure => simp [RowKit.intOf]; omega
      | false =>
        obtain ⟨sf, HSF⟩ : ∃ sf, Hid (safeB c.safe m = sf) := ⟨_, Lib.hid rfl⟩
        have HME := Lib.hid ((mem_safe (ls := c.safe) hm13 hm120).trans HSF.out)
        have HCX := Lib.hid ((part_at hm13 hlt HST.out HSF.out).2.2)
        clear HST HSF
        go_wp2_with fail
        refine (l7Has_any _ c.safe (m : Int) sf _ (HRD.out.below B.out).i HME.out).mono ?_
        rintro e w3 ⟨rfl, hb⟩
        have HO2 := Lib.hid (ownI_b HO'.out hb)
        clear HO' n5 HME
        have XC' := Lib.hid (XC.out.below hb XC.out.lt)
        have B' := Lib.hid (B.out.trans (hb.mono B.out.size))
        clear XC B
        have XC := XC'
        have B := B'
        clear XC' B'
        clear hb
        cases sf with
        | true =>
          have HC1 := Lib.hid (show k = cntB (partF c n) (m + 1) from by rw [HCX.out, HC.out]; simp)
          clear HC HCX
          go_wp2
          go_roundw
          case rel => exact ⟨m + 1, k, A, cap, xs, by omega, by omega, by first | rfl | go_num, Or.inr (by omega), rfl, HC1, HO2, XC, B⟩
          case measure => simp [RowKit.intOf]; omega
        | false =>
          have HC1 := Lib.hid (show k + 1 = cntB (partF c n) (m + 1) from by rw [HCX.out, HC.out]; simp)
          clear HC HCX
          have hn2 := Below.new1 (w := w3) (.cells #[.int .i64 (m : Int)] 3)
          have HO3 := Lib.hid (ownI_b HO2.out hn2)
          have HSL := Lib.hid (sl_intR w3 (m : Int) 3)
          have XC3 := Lib.hid (XC.out.below hn2 XC.out.lt)
          have B3 := Lib.hid (B.out.trans (hn2.mono B.out.size))
          have hxl := XC.out.lt
          clear HO2 XC B hn2
          go_wp2_with (first | (at_builtin; refine wpList_append_freshB _ rfl _ _ 25 rfl (w.heap.size + 1) 3 i0 _ 1 8 Tryz.underlying25 hi hz0 hz1 hz2 rfl (by omega) (.slice A k cap) k xs rfl HO3.out (.slice (some ⟨w3.heap.size, 0, none⟩) 1 1) 1 [.int .i64 (m : Int)] rfl HSL.out (by simp [Value.oneCell']) (by unfold maxLen; omega) (by omega) (by simp; omega) ?_))
          intro A4 cap4 w4 hown hg _
          have hb4 := below_grownB hg (fun b hb => (HO3.out.lt b hb).1) (show w.heap.size + 1 ≤ _ from by simp; omega)
          have HO4 := Lib.hid hown
          have XC4 := Lib.hid (XC3.out.below hb4 (by omega))
          have B4 := Lib.hid (B3.out.trans (hb4.mono (by omega)))
          clear hown hg hb4 HO3 XC3 B3 HSL
          go_wp2
          go_roundw
          case rel => exact ⟨m + 1, k + 1, A4, cap4, _, by omega, by omega, by first | rfl | go_num, Or.inr (by omega), rfl, HC1, HO4, XC4, B4⟩
          case measure => simp [RowKit.intOf]; omega
    case neg =>
      have HK := Lib.hid (show k = s from by rw [← HR.out, (sums_good HRO.out).2.2, HC.out]; exact cnt_last (partF_there c n) hlt (by omega))
      clear HO HC
      go_wp2
      go_ret
      exact ⟨⟨A, cap, by show Ending.returned (.slice A k cap) = .returned (.slice A s cap); rw [HK.out]⟩, B.out⟩

end Go.Proofs.YtglgdbnhnchabaaGreatDoor

/-
  The document's list of the free sectors.
-/
set_option maxRecDepth 100000
namespace Go.Proofs.YtglgdbnhnchabaaGreatDoor
open Go.ChangeShapes Go.WideShapes Go.ChangeAt Go.RowKit Go.Proofs.Palim

theorem listB_low {n : Int} {P : Nat → Bool} (h : ThereOf n P) : listB P 13 = [] := by
  unfold listB
  rw [List.filter_eq_nil_iff]
  intro i hi
  have := List.mem_range.1 hi
  rw [h i (decide_eq_false (by omega))]
  simp
theorem listB_more {P : Nat → Bool} {m k : Nat} (h : ∀ i, m ≤ i → P i = false) : listB P (m + k) = listB P m := by
  induction k with
  | zero => rfl
  | succ k ih => rw [← Nat.add_assoc, listB_succ, ih, h (m + k) (by omega)]; simp
theorem listB_last {n : Int} {P : Nat → Bool} (h : ThereOf n P) {m : Nat} (h1 : ¬ (m : Int) < n) (h2 : m ≤ 120) : listB P 128 = listB P m := by
  have e : 128 = m + (128 - m) := by omega
  rw [e]
  exact listB_more fun i hi => h i (decide_eq_false (by omega))
theorem partF_at {c : CoreM} {n : Int} {m : Nat} (h13 : 13 ≤ m) (hlt : (m : Int) < n) : partF c n m = (!storedB c.ddt m && !safeB c.safe m) := by
  unfold partF thereB
  rw [decide_eq_true ⟨h13, hlt⟩, Bool.true_and]

set_option maxHeartbeats 4000000 in
theorem l7FreeL_any (vs vd vp vi : Value) (c : CoreM) (n : Int) (w : World) (h : CoreR w vs vd vp vi c) (hs : CoreShort c) (hro : RoomOk c n) (hn0 : -9223372036854775808 ≤ n) :
    Calls Tryz.prog 21 #[cv c vs vd vp vi, .int .i64 n] w fun e w' => ∃ v, e = .returned v ∧ w'.ownsRow w.heap.size 3 1 v (freeL c n).length (ics (natsI (freeL c n))) ∧ Below w.heap.size w w' := by
  have hnot : ∀ (x : Bool) (w : World), (Op.unary .not (.bool x)).run Tryz.prog w = .ok (.bool (!x)) w := fun _ _ => rfl
  obtain ⟨i0, hi, hz0, hz1, hz2⟩ := info_parts infoInt
  have HS := Lib.hid hs
  have HRO := Lib.hid hro
  have hn120 := hro.2
  obtain ⟨A0, k0, A1, k1, A2, k2, A3, k3, rfl, rfl, rfl, rfl⟩ := h.forms
  have HRD := Lib.hid h
  have hn1 := Below.new1 (w := w.alloc (.cells #[.int .i64 c.txg, .slice A0 c.sets.length k0, .slice A1 c.ddt.length k1, .slice A2 c.parts.length k2, .bool c.dirty, .slice A3 c.safe.length k3, .int .i64 c.logn] 34)) (.cells #[] 3)
  have XC := Lib.hid (((kbox_new h 34).below hn1).box)
  have hb0 := Below.new1 (w := w) (.cells #[.int .i64 c.txg, .slice A0 c.sets.length k0, .slice A1 c.ddt.length k1, .slice A2 c.parts.length k2, .bool c.dirty, .slice A3 c.safe.length k3, .int .i64 c.logn] 34)
  have B := Lib.hid (hb0.trans (hn1.mono hb0.size))
  have HO := Lib.hid (show World.ownsRow _ (w.heap.size + 1) 3 1 (.slice (some ⟨w.heap.size + 1, 0, none⟩) 0 0) 0 [] from by have := World.ownsRow_made (e := 3) (w.alloc (.cells #[.int .i64 c.txg, .slice A0 c.sets.length k0, .slice A1 c.ddt.length k1, .slice A2 c.parts.length k2, .bool c.dirty, .slice A3 c.safe.length k3, .int .i64 c.logn] 34)) #[] 0 (Nat.le_refl _) (by unfold maxLen; omega) (rfl : (0 : Nat) * 1 = 0); simpa using this)
  clear h hs hro hn1 hb0
  go_enter Tryz.func21, Tryz.ntmps21
  go_wp2
  obtain ⟨W0, HWE⟩ : ∃ W0, (w.alloc (.cells #[.int .i64 c.txg, .slice A0 c.sets.length k0, .slice A1 c.ddt.length k1, .slice A2 c.parts.length k2, .bool c.dirty, .slice A3 c.safe.length k3, .int .i64 c.logn] 34)).alloc (.cells #[] 3) = W0 := ⟨_, rfl⟩
  rw [HWE] at XC B HO ⊢
  clear HWE
  have HC0 := Lib.hid (show ([] : List Nat) = listB (partF c n) 13 ∧ ([] : List Nat).length = 0 from ⟨(listB_low (partF_there c n)).symm, rfl⟩)
  go_loopw [5, 6, 7, 8] (fun lv i _ _ wr => ∃ (m k : Nat) (A : Option Addr) (cap : Nat) (zs : List Nat), 13 ≤ m ∧ k ≤ m ∧ i = .int .i64 m ∧ (m = 13 ∨ (m : Int) ≤ n) ∧ lv = .slice A k cap ∧ Hid (zs = listB (partF c n) m ∧ zs.length = k) ∧ Hid (wr.ownsRow (w.heap.size + 1) 3 1 (.slice A k cap) k (ics (natsI zs))) ∧ Hid (Box wr w.heap.size (kcore c (.slice A0 c.sets.length k0) (.slice A1 c.ddt.length k1) (.slice A2 c.parts.length k2) (.slice A3 c.safe.length k3))) ∧ Hid (Below w.heap.size w wr)) (fun _ i _ _ _ => 121 - (RowKit.intOf i).toNat)
  case atStart => exact ⟨13, 0, _, _, [], Nat.le_refl _, Nat.zero_le _, rfl, Or.inl rfl, rfl, HC0, HO, XC, B⟩
  case round =>
    clear XC B HO HC0
    obtain ⟨m, k, A, cap, zs, hm13, hkm, rfl, hmn, rfl, HC, HO, XC, B⟩ := hrel
    by_cases hlt : (m : Int) < n
    case pos =>
      have hm120 : m < 120 := by omega
      have n2 := XC.out.cell 2 rfl
      have n5 := XC.out.cell 5 rfl
      go_wp2_with fail
      refine (l5At_any _ c.ddt (m : Int) _ (HRD.out.below B.out).d (HRD.out.below B.out).ld).mono ?_
      rintro e w2 ⟨kk, r, rfl, hat, hth, hb⟩
      have HST := Lib.hid (at_stored HRO.out.1.2.1.2 hat hth hm13 hm120)
      have HO' := Lib.hid (ownI_b HO.out hb)
      clear hat hth HO n2 n5
      have XC' := Lib.hid (XC.out.below hb XC.out.lt)
      have B' := Lib.hid (B.out.trans (hb.mono B.out.size))
      clear XC B
      have XC := XC'
      have B := B'
      clear XC' B'
      have n5 := XC.out.cell 5 rfl
      clear hb
      cases r with
      | true =>
        have HC1 := Lib.hid (show zs = listB (partF c n) (m + 1) ∧ zs.length = k from ⟨by rw [listB_succ, partF_at hm13 hlt, HST.out, ← HC.out.1]; simp, HC.out.2⟩)
        clear HC HST
        go_wp2
        go_roundw
        case rel => exact ⟨m + 1, k, A, cap, zs, by omega, by omega, by first | rfl | go_num, Or.inr (by omega), rfl, HC1, HO', XC, B⟩
        case measure => simp [RowKit.intOf]; omega
      | false =>
        obtain ⟨sf, HSF⟩ : ∃ sf, Hid (safeB c.safe m = sf) := ⟨_, Lib.hid rfl⟩
        have HME := Lib.hid ((mem_safe (ls := c.safe) hm13 hm120).trans HSF.out)
        have HCX := Lib.hid (show partF c n m = !sf from by rw [partF_at hm13 hlt, HST.out, HSF.out]; simp)
        clear HST HSF
        go_wp2_with fail
        refine (l7Has_any _ c.safe (m : Int) sf _ (HRD.out.below B.out).i HME.out).mono ?_
        rintro e w3 ⟨rfl, hb⟩
        have HO2 := Lib.hid (ownI_b HO'.out hb)
        clear HO' n5 HME
        have XC' := Lib.hid (XC.out.below hb XC.out.lt)
        have B' := Lib.hid (B.out.trans (hb.mono B.out.size))
        clear XC B
        have XC := XC'
        have B := B'
        clear XC' B'
        clear hb
        cases sf with
        | true =>
          have HC1 := Lib.hid (show zs = listB (partF c n) (m + 1) ∧ zs.length = k from ⟨by rw [listB_succ, HCX.out, ← HC.out.1]; simp, HC.out.2⟩)
          clear HC HCX
          go_wp2
          go_roundw
          case rel => exact ⟨m + 1, k, A, cap, zs, by omega, by omega, by first | rfl | go_num, Or.inr (by omega), rfl, HC1, HO2, XC, B⟩
          case measure => simp [RowKit.intOf]; omega
        | false =>
          have HC1 := Lib.hid (show zs ++ [m] = listB (partF c n) (m + 1) ∧ (zs ++ [m]).length = k + 1 from ⟨by rw [listB_succ, HCX.out, ← HC.out.1]; simp, by rw [List.length_append, HC.out.2]; rfl⟩)
          clear HC HCX
          have hn2 := Below.new1 (w := w3) (.cells #[.int .i64 (m : Int)] 3)
          have HO3 := Lib.hid (ownI_b HO2.out hn2)
          have HSL := Lib.hid (sl_intR w3 (m : Int) 3)
          have XC3 := Lib.hid (XC.out.below hn2 XC.out.lt)
          have B3 := Lib.hid (B.out.trans (hn2.mono B.out.size))
          have hxl := XC.out.lt
          clear HO2 XC B hn2
          go_wp2_with (first | (at_builtin; refine wpList_append_freshB _ rfl _ _ 25 rfl (w.heap.size + 1) 3 i0 _ 1 8 Tryz.underlying25 hi hz0 hz1 hz2 rfl (by omega) (.slice A k cap) k (ics (natsI zs)) rfl HO3.out (.slice (some ⟨w3.heap.size, 0, none⟩) 1 1) 1 [.int .i64 (m : Int)] rfl HSL.out (by simp [Value.oneCell']) (by unfold maxLen; omega) (by omega) (by simp; omega) ?_))
          intro A4 cap4 w4 hown hg _
          have hb4 := below_grownB hg (fun b hb => (HO3.out.lt b hb).1) (show w.heap.size + 1 ≤ _ from by simp; omega)
          have HO4 := Lib.hid (show w4.ownsRow (w.heap.size + 1) 3 1 (.slice A4 (k + 1) cap4) (k + 1) (ics (natsI (zs ++ [m]))) from by rw [natsI_snoc, ics_snoc]; exact hown)
          have XC4 := Lib.hid (XC3.out.below hb4 (by omega))
          have B4 := Lib.hid (B3.out.trans (hb4.mono (by omega)))
          clear hown hg hb4 HO3 XC3 B3 HSL
          go_wp2
          go_roundw
          case rel => exact ⟨m + 1, k + 1, A4, cap4, zs ++ [m], by omega, by omega, by first | rfl | go_num, Or.inr (by omega), rfl, HC1, HO4, XC4, B4⟩
          case measure => simp [RowKit.intOf]; omega
    case neg =>
      have HK := Lib.hid (show zs = freeL c n from by
        unfold freeL
        rw [if_pos HRO.out, HC.out.1]
        exact (listB_last (partF_there c n) hlt (by omega)).symm)
      have HO5 := Lib.hid (show wr.ownsRow w.heap.size 3 1 (.slice A k cap) (freeL c n).length (ics (natsI (freeL c n))) from by rw [← HK.out, HC.out.2]; exact own_base HO.out (by omega))
      clear HO HC
      go_wp2
      go_ret
      exact ⟨_, rfl, HO5.out, B.out⟩
end Go.Proofs.YtglgdbnhnchabaaGreatDoor

/-
  The document's RoomFree.
-/
set_option maxRecDepth 100000
namespace Go.Proofs.YtglgdbnhnchabaaGreatDoor
open Go.ChangeShapes Go.WideShapes Go.ChangeAt Go.RowKit Go.Proofs.Palim

set_option maxHeartbeats 4000000 in
theorem specFree_any (vs vd vp vi : Value) (c : CoreM) (n : Int) (w : World) (h : CoreR w vs vd vp vi c) (hs : CoreShort c) (hn0 : -9223372036854775808 ≤ n) :
    Calls Tryz.prog 6 #[cv c vs vd vp vi, .int .i64 n] w fun e w' => ∃ v, e = .returned v ∧ w'.ownsRow w.heap.size 3 1 v (freeL c n).length (ics (natsI (freeL c n))) ∧ Below w.heap.size w w' := by
  have hnot : ∀ (x : Bool) (w : World), (Op.unary .not (.bool x)).run Tryz.prog w = .ok (.bool (!x)) w := fun _ _ => rfl
  have HS := Lib.hid hs
  obtain ⟨A0, k0, A1, k1, A2, k2, A3, k3, rfl, rfl, rfl, rfl⟩ := h.forms
  have HRD := Lib.hid h
  have hb0 := Below.new1 (w := w) (.cells #[.int .i64 c.txg, .slice A0 c.sets.length k0, .slice A1 c.ddt.length k1, .slice A2 c.parts.length k2, .bool c.dirty, .slice A3 c.safe.length k3, .int .i64 c.logn] 34)
  have B := Lib.hid hb0
  have XC := Lib.hid ((kbox_new h 34).box)
  clear h hs hb0
  go_enter Tryz.func6, Tryz.ntmps6
  go_upto_region 1 with fail
  obtain ⟨W0, HWE⟩ : ∃ W0, w.alloc (.cells #[.int .i64 c.txg, .slice A0 c.sets.length k0, .slice A1 c.ddt.length k1, .slice A2 c.parts.length k2, .bool c.dirty, .slice A3 c.safe.length k3, .int .i64 c.logn] 34) = W0 := ⟨_, rfl⟩
  rw [HWE] at XC B ⊢
  clear HWE
  by_cases hok : CoreOkM c
  case neg =>
    have HZ := Lib.hid (show freeL c n = [] from if_neg (fun h => hok h.1))
    have hor := decide_eq_false hok
    clear hok
    go_wp2_with (refine wpList_load_box rfl _ rfl aggCore rfl (kcore c (.slice A0 c.sets.length k0) (.slice A1 c.ddt.length k1) (.slice A2 c.parts.length k2) (.slice A3 c.safe.length k3)) rfl XC.out ?_)
    refine (specCoreOk_is _ _ _ _ c _ _ (HRD.out.below B.out) HS.out hor).mono ?_
    rintro e w2 ⟨rfl, hb⟩
    have XC' := Lib.hid (XC.out.below hb XC.out.lt)
    have B' := Lib.hid (B.out.trans (hb.mono B.out.size))
    clear hb XC B
    have XC := XC'
    have B := B'
    clear XC' B'
    go_wp2
    go_ret
    have hn := Below.new (w := w2) (.cells #[] 3)
    exact ⟨_, rfl, by rw [HZ.out]; exact own_base (World.ownsRow_made w2 #[] 0 (Nat.le_refl _) (by unfold maxLen; omega) rfl) B.out.size, B.out.trans (hn.mono B.out.size)⟩
  case pos =>
    have hor := decide_eq_true hok
    by_cases hn : n ≤ 120
    case neg =>
      have HZ := Lib.hid (show freeL c n = [] from if_neg (fun h => hn h.2))
      have q1 : n > 120 := by omega
      clear hok hn
      go_wp2_with (refine wpList_load_box rfl _ rfl aggCore rfl (kcore c (.slice A0 c.sets.length k0) (.slice A1 c.ddt.length k1) (.slice A2 c.parts.length k2) (.slice A3 c.safe.length k3)) rfl XC.out ?_)
      refine (specCoreOk_is _ _ _ _ c _ _ (HRD.out.below B.out) HS.out hor).mono ?_
      rintro e w2 ⟨rfl, hb⟩
      have XC' := Lib.hid (XC.out.below hb XC.out.lt)
      have B' := Lib.hid (B.out.trans (hb.mono B.out.size))
      clear hb XC B
      have XC := XC'
      have B := B'
      clear XC' B'
      go_wp2
      go_ret
      have hn := Below.new (w := w2) (.cells #[] 3)
      exact ⟨_, rfl, by rw [HZ.out]; exact own_base (World.ownsRow_made w2 #[] 0 (Nat.le_refl _) (by unfold maxLen; omega) rfl) B.out.size, B.out.trans (hn.mono B.out.size)⟩
    case pos =>
      have HRO := Lib.hid (show RoomOk c n from ⟨hok, hn⟩)
      have q1 : ¬ n > 120 := by omega
      clear hok
      go_wp2_with (refine wpList_load_box rfl _ rfl aggCore rfl (kcore c (.slice A0 c.sets.length k0) (.slice A1 c.ddt.length k1) (.slice A2 c.parts.length k2) (.slice A3 c.safe.length k3)) rfl XC.out ?_)
      refine (specCoreOk_is _ _ _ _ c _ _ (HRD.out.below B.out) HS.out hor).mono ?_
      rintro e w2 ⟨rfl, hb⟩
      have XC' := Lib.hid (XC.out.below hb XC.out.lt)
      have B' := Lib.hid (B.out.trans (hb.mono B.out.size))
      clear hb XC B
      have XC := XC'
      have B := B'
      clear XC' B'
      go_wp2_with (refine wpList_load_box rfl _ rfl aggCore rfl (kcore c (.slice A0 c.sets.length k0) (.slice A1 c.ddt.length k1) (.slice A2 c.parts.length k2) (.slice A3 c.safe.length k3)) rfl XC.out ?_)
      refine (l7FreeL_any _ _ _ _ c n _ (HRD.out.below B.out) HS.out HRO.out hn0).mono ?_
      rintro e w3 ⟨v, rfl, hown, hb⟩
      have HO := Lib.hid (own_base hown B.out.size)
      have B3 := Lib.hid (B.out.trans (hb.mono B.out.size))
      clear hown hb
      go_wp2
      go_ret
      exact ⟨_, rfl, HO.out, B3.out⟩
end Go.Proofs.YtglgdbnhnchabaaGreatDoor

/-
  math/bits.TrailingZeros64 at a word whose lowest bit is known, and its table.
-/
set_option maxRecDepth 100000
namespace Go.Proofs.YtglgdbnhnchabaaGreatDoor
open Go.ChangeShapes Go.WideShapes Go.ChangeAt Go.RowKit Go.Proofs.Palim

/-- The table of the library's trailing zeros stands in its variable. -/
def HasBru (w : World) : Prop := ∀ j, j < 64 → w.cell? ⟨0, j, none⟩ = some (.int .u8 (Lib.deBruijn64tab.getD j 0))
theorem HasBru.lt {w : World} (h : HasBru w) : 0 < w.heap.size := World.block_lt_of_cell? w _ (h 0 (by omega))
theorem HasBru.block {w w' : World} (h : HasBru w) (hb : w'.heap[0]? = w.heap[0]?) : HasBru w' := fun j hj => (World.cell?_of_block (a := ⟨0, j, none⟩) hb).trans (h j hj)
theorem HasBru.below {B : Nat} {w w' : World} (h : HasBru w) (hb : Below B w w') (hB : 0 < B) : HasBru w' := h.block (hb.block _ hB)

set_option maxHeartbeats 1000000 in
theorem tz_any (x k : Nat) (hx : x < 2 ^ 64) (hx0 : x ≠ 0) (hk : k < 64) (hlow : x &&& (2 ^ 64 - x) = 2 ^ k) (w : World) (hT : HasBru w) :
    Calls Tryz.prog 56 #[.int .u64 (x : Int)] w fun e w' => e = .returned (.int .i64 (k : Int)) ∧ w' = w := by
  obtain ⟨hi, htab⟩ := Lib.deBruijn64_at k hk
  have hcell := hT _ hi
  rw [htab] at hcell
  obtain ⟨a, HA⟩ : ∃ a, Hid (2 ^ k = a) := ⟨_, Lib.hid rfl⟩
  rw [HA.out] at hi hcell hlow
  obtain ⟨p, HP⟩ : ∃ p, Hid (a * 285870213051353865 % 18446744073709551616 = p) := ⟨_, Lib.hid rfl⟩
  rw [HP.out] at hi hcell
  obtain ⟨idx, HI⟩ : ∃ idx, Hid (p / 288230376151711744 = idx) := ⟨_, Lib.hid rfl⟩
  rw [HI.out] at hi hcell
  obtain ⟨z, HZ⟩ : ∃ z, Hid (2 ^ 64 - x = z) := ⟨_, Lib.hid rfl⟩
  rw [HZ.out] at hlow
  have hz : z < 2 ^ 64 := by have := HZ.out; omega
  have hneg : IntKind.wrap .u64 (-(x : Int)) = (z : Int) := by rw [IntKind.wrap_u64]; have := HZ.out; omega
  have hand : bits .and .u64 (x : Int) (z : Int) = (a : Int) := by rw [bits_and_nat _ _ hx hz, hlow]
  have hmul : IntKind.wrap .u64 ((a : Int) * 285870213051353865) = (p : Int) := by rw [IntKind.wrap_u64, ← HP.out]; omega
  have hshr : (p : Int) / 288230376151711744 = (idx : Int) := by rw [← HI.out]; omega
  have hx1 : ((x : Int) == 0) = false := by simp; omega
  have hx2 : ¬ (x : Int) = 0 := by omega
  have hk1 : IntKind.wrap .i64 (k : Int) = (k : Int) := IntWalk.i64_in _ (by omega)
  clear htab hlow hx0 hT hx hz HA HP HI HZ
  go_enter Tryz.func56, Tryz.ntmps56
  go_wp2
  go_ret
  exact ⟨rfl, rfl⟩
end Go.Proofs.YtglgdbnhnchabaaGreatDoor

/-
  What a round of a loop over an iterator keeps.
-/
set_option maxRecDepth 100000
namespace Go.Proofs.YtglgdbnhnchabaaGreatDoor
open Go.ChangeShapes Go.WideShapes Go.ChangeAt Go.RowKit Go.Proofs.Palim Go.Shelf

/-- What a round that goes on keeps: the blocks below N that are not S's. -/
structure KeepB (N : Nat) (S : Nat → Prop) (W W' : World) : Prop where
  size : W.heap.size ≤ W'.heap.size
  block : ∀ b, b < N → ¬ S b → W'.heap[b]? = W.heap[b]?
theorem KeepB.refl (N : Nat) (S : Nat → Prop) (W : World) : KeepB N S W W := ⟨Nat.le_refl _, fun _ _ _ => rfl⟩
theorem KeepB.trans {N : Nat} {S : Nat → Prop} {A B C : World} (h : KeepB N S A B) (k : KeepB N S B C) : KeepB N S A C := ⟨Nat.le_trans h.size k.size, fun b hb hn => (k.block b hb hn).trans (h.block b hb hn)⟩
theorem keepB_b {N : Nat} {S : Nat → Prop} {w : World} (hn : N ≤ w.heap.size) (W : World) (l : Nat) (o o' : Obj) (hl : w.heap.size ≤ l) (h : W.heap[l]? = some o) (_ : o.isCells = false) (_ : o.isWalk = false) : KeepB N S W (W.putObj l o') :=
  ⟨by simp, fun b hb _ => World.putObj_heap_other (by omega)⟩
theorem KeepB.of_below {N : Nat} {S : Nat → Prop} {W W' : World} (h : Below W.heap.size W W') (hN : N ≤ W.heap.size) : KeepB N S W W' := ⟨h.size, fun b hb _ => h.block b (by omega)⟩
theorem KeepB.of_turned {N : Nat} {S : Nat → Prop} {W W' : World} (h : Turned S W W') (hN : N ≤ W.heap.size) : KeepB N S W W' := ⟨h.size, fun b hb hn => h.block b (by omega) hn⟩
theorem leaves_two {fn : Func} {tmps : Array Value} {W : World} {R : Ending → World → Prop} {D : Nat} {n : Nat} {v : Value} (hK : W.heap[D]? = some (.deferred (some []))) (hr : (results fn tmps).run Tryz.prog (W.putObj D (.deferred none)) = .ok v (W.putObj D (.deferred none))) (h : R (.returned v) (W.putObj D (.deferred none))) :
    bodyPostM Fence.wide n Tryz.prog fn R .ret { tmps := tmps, defers := [{ target := .collected D, args := #[] }] } W :=
  ⟨by simp, .inl ⟨_, _, rfl, run_takeDeferred hK, ⟨_, hr, h⟩⟩⟩
end Go.Proofs.YtglgdbnhnchabaaGreatDoor

/-
  impl's sets of sectors: add, within, without, count.
-/
set_option maxRecDepth 100000
namespace Go.Proofs.YtglgdbnhnchabaaGreatDoor
open Go.ChangeShapes Go.WideShapes Go.ChangeAt Go.RowKit Go.Proofs.Palim

/-- Two words as a value. -/
abbrev bv (x0 x1 : Nat) : Value := .agg #[.int .u64 (x0 : Int), .int .u64 (x1 : Int)]
theorem idxb0 (a b : Value) (w : World) : (Instr.index 53 (.agg #[a, b]) (.int .i64 0)).run Tryz.prog w = .ok a w := by kernel_rfl
theorem idxb1 (a b : Value) (w : World) : (Instr.index 53 (.agg #[a, b]) (.int .i64 1)).run Tryz.prog w = .ok b w := by kernel_rfl

set_option maxHeartbeats 4000000 in
theorem badd_any (b x0 x1 : Nat) (P : Nat → Bool) (a : Int) (w : World) (hB : Box w b [.int .u64 (x0 : Int), .int .u64 (x1 : Int)]) (hR : BitsR x0 x1 P) :
    Calls Tryz.prog 37 #[.pointer (some ⟨b, 0, none⟩), .int .i64 a] w fun e w' => e = .returned (.tuple #[]) ∧ ∃ y0 y1, BitsR y0 y1 (addB P a) ∧ Box w' b [.int .u64 (y0 : Int), .int .u64 (y1 : Int)] ∧ Turned (fun k => k = b) w w' := by
  have HB := Lib.hid hB
  have HR := Lib.hid hR
  clear hB hR
  by_cases hr : 13 ≤ a ∧ a < 120
  case neg =>
    have HF := Lib.hid (show ∃ y0 y1, BitsR y0 y1 (addB P a) ∧ Box w b [.int .u64 (y0 : Int), .int .u64 (y1 : Int)] ∧ Turned (fun k => k = b) w w from ⟨x0, x1, by rw [addB_out hr]; exact HR.out, HB.out, Turned.refl _ _⟩)
    have h2 : ¬ a ≥ 13 ∨ (a ≥ 13 ∧ ¬ a < 120) := by omega
    clear hr
    rcases h2 with h1 | ⟨h1, h2⟩
    all_goals
      go_enter Tryz.func37, Tryz.ntmps37
      go_wp2
      first
        | (go_ret; exact ⟨rfl, HF.out⟩)
        | exact ⟨rfl, .tuple #[], by simp [results, Tryz.results37, go_sem], rfl, HF.out⟩
  case pos =>
    obtain ⟨n, rfl⟩ : ∃ n : Nat, a = (n : Int) := ⟨a.toNat, by omega⟩
    have r1 : (n : Int) ≥ 13 := hr.1
    have r2 : (n : Int) < 120 := hr.2
    clear hr
    obtain ⟨c0, c1⟩ := HB.out.two
    have f0 := HB.out.open_ 0
    have f1 := HB.out.open_ 1
    have w0 : IntKind.wrap .i64 0 = 0 := IntWalk.i64_in _ (by omega)
    have w1 : IntKind.wrap .i64 1 = 1 := IntWalk.i64_in _ (by omega)
    by_cases h6 : n < 64
    case pos =>
      obtain ⟨v, HV⟩ : ∃ v, Hid (2 ^ n = v) := ⟨_, Lib.hid rfl⟩
      obtain ⟨y, HY⟩ : ∃ y, Hid (x0 ||| v = y) := ⟨_, Lib.hid rfl⟩
      have q1 : (n : Int).tdiv 64 = 0 := by rw [Int.tdiv_eq_ediv_of_nonneg (by omega)]; omega
      have q2 : (n : Int).tmod 64 = (n : Int) := by rw [Int.tmod_eq_emod_of_nonneg (by omega)]; omega
      have hv : v < 2 ^ 64 := by rw [← HV.out]; exact Nat.pow_lt_pow_right (by omega) h6
      have s0 : (2 : Int) ^ n = (v : Int) := by rw [← HV.out]; simp
      have s1 : IntKind.wrap .u64 (v : Int) = (v : Int) := wrap_u64 _ hv
      have n0 : (0 : Int) ≤ (n : Int) := by omega
      have n1 : (n : Int) ≤ 64 := by omega
      have o1 : bits .or .u64 (x0 : Int) (v : Int) = (y : Int) := by rw [bits_or_nat _ _ HR.out.l0 hv, HY.out]
      have HF := Lib.hid (show ∃ y0 y1, BitsR y0 y1 (addB P (n : Int)) ∧ Box (w.drew.setCell ⟨b, 0, none⟩ (.int .u64 (y : Int))) b [.int .u64 (y0 : Int), .int .u64 (y1 : Int)] ∧ Turned (fun k => k = b) w (w.drew.setCell ⟨b, 0, none⟩ (.int .u64 (y : Int))) from
        ⟨y, x1, by rw [← HY.out, ← HV.out]; exact bits_add0 HR.out (by omega) h6, HB.out.drew.set 0 _, turned_setCell (S := fun k => k = b) (turned_of_below ((Below.refl _ w).drew)) (p := ⟨b, 0, none⟩) rfl _⟩)
      go_enter Tryz.func37, Tryz.ntmps37
      go_wp2_with fail
      refine wp_region_held_drew (S := fun _ => True) (by kernel_rfl) trivial (fun hHeld => ?_)
      refine wpAnyH_take (i := 0) (v := ?_) rfl (by kernel_rfl) (by kernel_rfl) (by kernel_rfl) (fun _ _ _ h => h) (Or.inl ⟨by first | kernel_rfl | rfl, ?_⟩) (by assumption) ?_
      rotate_left
      · (intro w' hSw; clear hSw; go_simp; try with_reducible rfl)
      try simp only [Act.put]
      refine wpAnyH_take (i := 1) (v := ?_) rfl (by kernel_rfl) (by kernel_rfl) (by kernel_rfl) (fun _ _ _ h => h) (Or.inl ⟨by first | kernel_rfl | rfl, ?_⟩) (by assumption) ?_
      rotate_left
      · (intro w' hSw; clear hSw; go_simp; try with_reducible rfl)
      try simp only [Act.put]
      refine wpAnyH_take (i := 2) (v := ?_) rfl (by kernel_rfl) (by kernel_rfl) (by kernel_rfl) (fun _ _ _ h => h) (Or.inl ⟨by first | kernel_rfl | rfl, ?_⟩) (by assumption) ?_
      rotate_left
      · (intro w' hSw; clear hSw; go_simp; try with_reducible rfl)
      try simp only [Act.put]
      refine wpAnyH_take (i := 3) (v := ?_) rfl (by kernel_rfl) (by kernel_rfl) (by kernel_rfl) (fun _ _ _ h => h) (Or.inl ⟨by first | kernel_rfl | rfl, ?_⟩) (by assumption) ?_
      rotate_left
      · (intro w' hSw; clear hSw; go_simp; try with_reducible rfl)
      try simp only [Act.put]
      refine wpAnyH_take (i := 4) (v := ?_) rfl (by kernel_rfl) (by kernel_rfl) (by kernel_rfl) (fun _ _ _ h => h) (Or.inl ⟨by first | kernel_rfl | rfl, ?_⟩) (by assumption) ?_
      rotate_left
      · (intro w' hSw; clear hSw; go_simp; try with_reducible rfl)
      try simp only [Act.put]
      refine wpAnyH_take (i := 6) (v := ?_) rfl (by kernel_rfl) (by kernel_rfl) (by kernel_rfl) (fun _ _ _ h => h) (Or.inl ⟨by first | kernel_rfl | rfl, ?_⟩) (by assumption) ?_
      rotate_left
      · (intro w' hSw; clear hSw; go_simp; try with_reducible rfl)
      try simp only [Act.put]
      refine wpAnyH_take (i := 7) (v := ?_) rfl (by kernel_rfl) (by kernel_rfl) (by kernel_rfl) (fun _ _ _ h => h) (Or.inl ⟨by first | kernel_rfl | rfl, ?_⟩) (by assumption) ?_
      rotate_left
      · (intro w' hSw; clear hSw; go_simp; try with_reducible rfl)
      try simp only [Act.put]
      refine wpAnyH_take (i := 8) (v := ?_) rfl (by kernel_rfl) (by kernel_rfl) (by kernel_rfl) (fun _ _ _ h => h) (Or.inl ⟨by first | kernel_rfl | rfl, ?_⟩) (by assumption) ?_
      rotate_left
      · (intro w' hSw; clear hSw; go_simp; try with_reducible rfl)
      try simp only [Act.put]
      refine wpAnyH_take (i := 10) (v := ?_) rfl (by kernel_rfl) (by kernel_rfl) (by kernel_rfl) (fun _ _ _ h => h) (Or.inl ⟨by first | kernel_rfl | rfl, ?_⟩) (by assumption) ?_
      rotate_left
      · (intro w' hSw; clear hSw; go_simp; try with_reducible rfl)
      try simp only [Act.put]
      refine wpAnyH_ready (rs := [5]) (by kernel_rfl) (by simp) ?_
      refine AllReadyH.cons rfl (fun K hK => ?_) AllReadyH.nil
      go_simp
      refine hK.out _ _ trivial (fun hHeld2 => ?_)
      clear hK K
      try simp only [Act.put]
      refine wpAnyH_take (i := 9) (v := ?_) rfl (by kernel_rfl) (by kernel_rfl) (by kernel_rfl) (fun _ _ _ h => h) (Or.inl ⟨by first | kernel_rfl | rfl, ?_⟩) (by assumption) ?_
      rotate_left
      · (intro w' hSw; clear hSw; go_simp; try with_reducible rfl)
      try simp only [Act.put]
      refine wpAnyH_take (i := 11) (v := ?_) rfl (by kernel_rfl) (by kernel_rfl) (by kernel_rfl) (fun _ _ _ h => h) (Or.inl ⟨by first | kernel_rfl | rfl, ?_⟩) (by assumption) ?_
      rotate_left
      · (intro w' hSw; clear hSw; go_simp; try with_reducible rfl)
      try simp only [Act.put]
      refine wpAnyH_ready (rs := [12]) (by kernel_rfl) (by simp) ?_
      refine AllReadyH.cons rfl (fun K hK => ?_) AllReadyH.nil
      go_simp
      refine hK.out _ _ trivial (fun hHeld3 => ?_)
      clear hK K
      try simp only [Act.put]
      refine wpAnyH_done (by kernel_rfl) ?_ _
      go_simp
      clear hHeld hHeld2 hHeld3
      go_wp2
      exact ⟨rfl, .tuple #[], by simp [results, Tryz.results37, go_sem], rfl, HF.out⟩
    case neg =>
      obtain ⟨m, HM⟩ : ∃ m, Hid (n - 64 = m) := ⟨_, Lib.hid rfl⟩
      have hm := HM.out
      obtain ⟨v, HV⟩ : ∃ v, Hid (2 ^ m = v) := ⟨_, Lib.hid rfl⟩
      obtain ⟨y, HY⟩ : ∃ y, Hid (x1 ||| v = y) := ⟨_, Lib.hid rfl⟩
      have q1 : (n : Int).tdiv 64 = 1 := by rw [Int.tdiv_eq_ediv_of_nonneg (by omega)]; omega
      have q2 : (n : Int).tmod 64 = (m : Int) := by rw [Int.tmod_eq_emod_of_nonneg (by omega)]; omega
      have hv : v < 2 ^ 64 := by rw [← HV.out]; exact Nat.pow_lt_pow_right (by omega) (by omega)
      have s0 : (2 : Int) ^ m = (v : Int) := by rw [← HV.out]; simp
      have s1 : IntKind.wrap .u64 (v : Int) = (v : Int) := wrap_u64 _ hv
      have n0 : (0 : Int) ≤ (m : Int) := by omega
      have n1 : (m : Int) ≤ 64 := by omega
      have o1 : bits .or .u64 (x1 : Int) (v : Int) = (y : Int) := by rw [bits_or_nat _ _ HR.out.l1 hv, HY.out]
      have HF := Lib.hid (show ∃ y0 y1, BitsR y0 y1 (addB P (n : Int)) ∧ Box (w.drew.setCell ⟨b, 1, none⟩ (.int .u64 (y : Int))) b [.int .u64 (y0 : Int), .int .u64 (y1 : Int)] ∧ Turned (fun k => k = b) w (w.drew.setCell ⟨b, 1, none⟩ (.int .u64 (y : Int))) from
        ⟨x0, y, by rw [← HY.out, ← HV.out, ← HM.out]; exact bits_add1 HR.out (by omega) (by omega), HB.out.drew.set 1 _, turned_setCell (S := fun k => k = b) (turned_of_below ((Below.refl _ w).drew)) (p := ⟨b, 1, none⟩) rfl _⟩)
      clear hm
      go_enter Tryz.func37, Tryz.ntmps37
      go_wp2_with fail
      refine wp_region_held_drew (S := fun _ => True) (by kernel_rfl) trivial (fun hHeld => ?_)
      refine wpAnyH_take (i := 0) (v := ?_) rfl (by kernel_rfl) (by kernel_rfl) (by kernel_rfl) (fun _ _ _ h => h) (Or.inl ⟨by first | kernel_rfl | rfl, ?_⟩) (by assumption) ?_
      rotate_left
      · (intro w' hSw; clear hSw; go_simp; try with_reducible rfl)
      try simp only [Act.put]
      refine wpAnyH_take (i := 1) (v := ?_) rfl (by kernel_rfl) (by kernel_rfl) (by kernel_rfl) (fun _ _ _ h => h) (Or.inl ⟨by first | kernel_rfl | rfl, ?_⟩) (by assumption) ?_
      rotate_left
      · (intro w' hSw; clear hSw; go_simp; try with_reducible rfl)
      try simp only [Act.put]
      refine wpAnyH_take (i := 2) (v := ?_) rfl (by kernel_rfl) (by kernel_rfl) (by kernel_rfl) (fun _ _ _ h => h) (Or.inl ⟨by first | kernel_rfl | rfl, ?_⟩) (by assumption) ?_
      rotate_left
      · (intro w' hSw; clear hSw; go_simp; try with_reducible rfl)
      try simp only [Act.put]
      refine wpAnyH_take (i := 3) (v := ?_) rfl (by kernel_rfl) (by kernel_rfl) (by kernel_rfl) (fun _ _ _ h => h) (Or.inl ⟨by first | kernel_rfl | rfl, ?_⟩) (by assumption) ?_
      rotate_left
      · (intro w' hSw; clear hSw; go_simp; try with_reducible rfl)
      try simp only [Act.put]
      refine wpAnyH_take (i := 4) (v := ?_) rfl (by kernel_rfl) (by kernel_rfl) (by kernel_rfl) (fun _ _ _ h => h) (Or.inl ⟨by first | kernel_rfl | rfl, ?_⟩) (by assumption) ?_
      rotate_left
      · (intro w' hSw; clear hSw; go_simp; try with_reducible rfl)
      try simp only [Act.put]
      refine wpAnyH_take (i := 6) (v := ?_) rfl (by kernel_rfl) (by kernel_rfl) (by kernel_rfl) (fun _ _ _ h => h) (Or.inl ⟨by first | kernel_rfl | rfl, ?_⟩) (by assumption) ?_
      rotate_left
      · (intro w' hSw; clear hSw; go_simp; try with_reducible rfl)
      try simp only [Act.put]
      refine wpAnyH_take (i := 7) (v := ?_) rfl (by kernel_rfl) (by kernel_rfl) (by kernel_rfl) (fun _ _ _ h => h) (Or.inl ⟨by first | kernel_rfl | rfl, ?_⟩) (by assumption) ?_
      rotate_left
      · (intro w' hSw; clear hSw; go_simp; try with_reducible rfl)
      try simp only [Act.put]
      refine wpAnyH_take (i := 8) (v := ?_) rfl (by kernel_rfl) (by kernel_rfl) (by kernel_rfl) (fun _ _ _ h => h) (Or.inl ⟨by first | kernel_rfl | rfl, ?_⟩) (by assumption) ?_
      rotate_left
      · (intro w' hSw; clear hSw; go_simp; try with_reducible rfl)
      try simp only [Act.put]
      refine wpAnyH_take (i := 10) (v := ?_) rfl (by kernel_rfl) (by kernel_rfl) (by kernel_rfl) (fun _ _ _ h => h) (Or.inl ⟨by first | kernel_rfl | rfl, ?_⟩) (by assumption) ?_
      rotate_left
      · (intro w' hSw; clear hSw; go_simp; try with_reducible rfl)
      try simp only [Act.put]
      refine wpAnyH_ready (rs := [5]) (by kernel_rfl) (by simp) ?_
      refine AllReadyH.cons rfl (fun K hK => ?_) AllReadyH.nil
      go_simp
      refine hK.out _ _ trivial (fun hHeld2 => ?_)
      clear hK K
      try simp only [Act.put]
      refine wpAnyH_take (i := 9) (v := ?_) rfl (by kernel_rfl) (by kernel_rfl) (by kernel_rfl) (fun _ _ _ h => h) (Or.inl ⟨by first | kernel_rfl | rfl, ?_⟩) (by assumption) ?_
      rotate_left
      · (intro w' hSw; clear hSw; go_simp; try with_reducible rfl)
      try simp only [Act.put]
      refine wpAnyH_take (i := 11) (v := ?_) rfl (by kernel_rfl) (by kernel_rfl) (by kernel_rfl) (fun _ _ _ h => h) (Or.inl ⟨by first | kernel_rfl | rfl, ?_⟩) (by assumption) ?_
      rotate_left
      · (intro w' hSw; clear hSw; go_simp; try with_reducible rfl)
      try simp only [Act.put]
      refine wpAnyH_ready (rs := [12]) (by kernel_rfl) (by simp) ?_
      refine AllReadyH.cons rfl (fun K hK => ?_) AllReadyH.nil
      go_simp
      refine hK.out _ _ trivial (fun hHeld3 => ?_)
      clear hK K
      try simp only [Act.put]
      refine wpAnyH_done (by kernel_rfl) ?_ _
      go_simp
      clear hHeld hHeld2 hHeld3
      go_wp2
      exact ⟨rfl, .tuple #[], by simp [results, Tryz.results37, go_sem], rfl, HF.out⟩

theorem aggBits : Agg Tryz.prog 53 2 := ⟨Tryz.isAgg53, Tryz.sizeOf53⟩

set_option maxHeartbeats 4000000 in
theorem bwith_any (x0 x1 y0 y1 : Nat) (P Q : Nat → Bool) (hx : BitsR x0 x1 P) (hy : BitsR y0 y1 Q) (w : World) :
    Calls Tryz.prog 53 #[bv x0 x1, bv y0 y1] w fun e w' => ∃ z0 z1, e = .returned (bv z0 z1) ∧ BitsR z0 z1 (fun i => P i && Q i) ∧ Below w.heap.size w w' := by
  obtain ⟨z0, HZ0⟩ : ∃ z, Hid (x0 &&& y0 = z) := ⟨_, Lib.hid rfl⟩
  obtain ⟨z1, HZ1⟩ : ∃ z, Hid (x1 &&& y1 = z) := ⟨_, Lib.hid rfl⟩
  have o0 : bits .and .u64 (x0 : Int) (y0 : Int) = (z0 : Int) := by rw [← HZ0.out]; exact bits_and_nat _ _ hx.l0 hy.l0
  have o1 : bits .and .u64 (x1 : Int) (y1 : Int) = (z1 : Int) := by rw [← HZ1.out]; exact bits_and_nat _ _ hx.l1 hy.l1
  have HR := Lib.hid (show BitsR z0 z1 (fun i => P i && Q i) from by rw [← HZ0.out, ← HZ1.out]; exact bits_and hx hy)
  have hi0 := idxb0 (.int .u64 (y0 : Int)) (.int .u64 (y1 : Int))
  have hi1 := idxb1 (.int .u64 (y0 : Int)) (.int .u64 (y1 : Int))
  obtain ⟨X1, X2, X3, hsz, hB⟩ := box3 w #[.int .u64 (x0 : Int), .int .u64 (x1 : Int)] #[.int .u64 (y0 : Int), .int .u64 (y1 : Int)] #[.int .u64 0, .int .u64 0] 53 53 53
  have HB := Lib.hid hB
  have HX := Lib.hid X1
  have HT := Lib.hid X3
  obtain ⟨a0, a1⟩ := X1.two
  obtain ⟨b0, b1⟩ := X2.two
  obtain ⟨r0, r1⟩ := X3.two
  have f0 := X1.open_ 0
  have f1 := X1.open_ 1
  have g0 := X3.open_ 0
  have g1 := X3.open_ 1
  clear hB X1 X2 X3 hx hy
  go_enter Tryz.func53, Tryz.ntmps53
  go_upto_region 1 with fail
  obtain ⟨W, HW⟩ : ∃ W, ((w.alloc (.cells #[.int .u64 (x0 : Int), .int .u64 (x1 : Int)] 53)).alloc (.cells #[.int .u64 (y0 : Int), .int .u64 (y1 : Int)] 53)).alloc (.cells #[.int .u64 0, .int .u64 0] 53) = W := ⟨_, rfl⟩
  rw [HW] at HB HX HT a0 a1 b0 b1 r0 r1 f0 f1 g0 g1 hsz ⊢
  clear HW
  go_wp2
  refine wp_loop_rounds 3 ?_
  rw [rounds_succ]
  go_wp2
  rw [rounds_succ]
  go_wp2
  rw [rounds_succ]
  go_wp2
  have HF := ((((HT.out.other (p := ⟨w.heap.size, 0, none⟩) (by simp only; omega) (.int .u64 (z0 : Int))).other (p := ⟨w.heap.size, 1, none⟩) (by simp only; omega) (.int .u64 (z1 : Int))).set 0 (.int .u64 (z0 : Int))).set 1 (.int .u64 (z1 : Int)))
  have HL := ((((HB.out.setCell (p := ⟨w.heap.size, 0, none⟩) (Nat.le_refl _) (.int .u64 (z0 : Int))).setCell (p := ⟨w.heap.size, 1, none⟩) (Nat.le_refl _) (.int .u64 (z1 : Int))).setCell (p := ⟨w.heap.size + 2, 0, none⟩) (by simp) (.int .u64 (z0 : Int))).setCell (p := ⟨w.heap.size + 2, 1, none⟩) (by simp) (.int .u64 (z1 : Int)))
  refine bodyPost_ret (v := bv z0 z1) (results_box rfl _ (w.heap.size + 2) [.int .u64 (z0 : Int), .int .u64 (z1 : Int)] aggBits rfl rfl HF) rfl ?_
  exact ⟨z0, z1, rfl, HR.out, HL⟩

set_option maxHeartbeats 4000000 in
theorem bwout_any (x0 x1 y0 y1 : Nat) (P Q : Nat → Bool) (hx : BitsR x0 x1 P) (hy : BitsR y0 y1 Q) (w : World) :
    Calls Tryz.prog 54 #[bv x0 x1, bv y0 y1] w fun e w' => ∃ z0 z1, e = .returned (bv z0 z1) ∧ BitsR z0 z1 (fun i => P i && !Q i) ∧ Below w.heap.size w w' := by
  obtain ⟨z0, HZ0⟩ : ∃ z, Hid (nandB x0 y0 = z) := ⟨_, Lib.hid rfl⟩
  obtain ⟨z1, HZ1⟩ : ∃ z, Hid (nandB x1 y1 = z) := ⟨_, Lib.hid rfl⟩
  have o0 : bits .andNot .u64 (x0 : Int) (y0 : Int) = (z0 : Int) := by rw [← HZ0.out]; exact bits_andNot_nat _ _
  have o1 : bits .andNot .u64 (x1 : Int) (y1 : Int) = (z1 : Int) := by rw [← HZ1.out]; exact bits_andNot_nat _ _
  have HR := Lib.hid (show BitsR z0 z1 (fun i => P i && !Q i) from by rw [← HZ0.out, ← HZ1.out]; exact bits_nand hx hy)
  have hi0 := idxb0 (.int .u64 (y0 : Int)) (.int .u64 (y1 : Int))
  have hi1 := idxb1 (.int .u64 (y0 : Int)) (.int .u64 (y1 : Int))
  obtain ⟨X1, X2, X3, hsz, hB⟩ := box3 w #[.int .u64 (x0 : Int), .int .u64 (x1 : Int)] #[.int .u64 (y0 : Int), .int .u64 (y1 : Int)] #[.int .u64 0, .int .u64 0] 53 53 53
  have HB := Lib.hid hB
  have HX := Lib.hid X1
  have HT := Lib.hid X3
  obtain ⟨a0, a1⟩ := X1.two
  obtain ⟨b0, b1⟩ := X2.two
  obtain ⟨r0, r1⟩ := X3.two
  have f0 := X1.open_ 0
  have f1 := X1.open_ 1
  have g0 := X3.open_ 0
  have g1 := X3.open_ 1
  clear hB X1 X2 X3 hx hy
  go_enter Tryz.func54, Tryz.ntmps54
  go_upto_region 1 with fail
  obtain ⟨W, HW⟩ : ∃ W, ((w.alloc (.cells #[.int .u64 (x0 : Int), .int .u64 (x1 : Int)] 53)).alloc (.cells #[.int .u64 (y0 : Int), .int .u64 (y1 : Int)] 53)).alloc (.cells #[.int .u64 0, .int .u64 0] 53) = W := ⟨_, rfl⟩
  rw [HW] at HB HX HT a0 a1 b0 b1 r0 r1 f0 f1 g0 g1 hsz ⊢
  clear HW
  go_wp2
  refine wp_loop_rounds 3 ?_
  rw [rounds_succ]
  go_wp2
  rw [rounds_succ]
  go_wp2
  rw [rounds_succ]
  go_wp2
  have HF := ((((HT.out.other (p := ⟨w.heap.size, 0, none⟩) (by simp only; omega) (.int .u64 (z0 : Int))).other (p := ⟨w.heap.size, 1, none⟩) (by simp only; omega) (.int .u64 (z1 : Int))).set 0 (.int .u64 (z0 : Int))).set 1 (.int .u64 (z1 : Int)))
  have HL := ((((HB.out.setCell (p := ⟨w.heap.size, 0, none⟩) (Nat.le_refl _) (.int .u64 (z0 : Int))).setCell (p := ⟨w.heap.size, 1, none⟩) (Nat.le_refl _) (.int .u64 (z1 : Int))).setCell (p := ⟨w.heap.size + 2, 0, none⟩) (by simp) (.int .u64 (z0 : Int))).setCell (p := ⟨w.heap.size + 2, 1, none⟩) (by simp) (.int .u64 (z1 : Int)))
  refine bodyPost_ret (v := bv z0 z1) (results_box rfl _ (w.heap.size + 2) [.int .u64 (z0 : Int), .int .u64 (z1 : Int)] aggBits rfl rfl HF) rfl ?_
  exact ⟨z0, z1, rfl, HR.out, HL⟩
end Go.Proofs.YtglgdbnhnchabaaGreatDoor

/-
  impl's sectors as an iterator: it hands out each sector, ascending, to whatever loop body keeps its words.
-/
set_option maxRecDepth 100000
namespace Go.Proofs.YtglgdbnhnchabaaGreatDoor
open Go.ChangeShapes Go.WideShapes Go.ChangeAt Go.RowKit Go.Proofs.Palim Go.Shelf

attribute [local go_sem] Oper.semAt_some

def encN (x : Nat) : Array Value := #[.int .i64 (x : Int)]
/-- The word m of two. -/
def word2 (x0 x1 m : Nat) : Nat := if m = 0 then x0 else x1
/-- The sectors of the first m words. -/
def upto2 (x0 x1 m : Nat) : List Nat := if m = 0 then [] else if m = 1 then bitsL x0 else bitsL x0 ++ (bitsL x1).map (64 + ·)
theorem bitsL_le (x : Nat) : (bitsL x).length ≤ 64 := by
  unfold bitsL
  refine Nat.le_trans (List.length_filter_le _ _) ?_
  simp
theorem upto2_succ (x0 x1 m : Nat) (h : m < 2) : upto2 x0 x1 (m + 1) = upto2 x0 x1 m ++ (bitsL (word2 x0 x1 m)).map (64 * m + ·) := by
  match m, h with
  | 0, _ => simp [upto2, word2]
  | 1, _ => simp [upto2, word2]
theorem idxw (x0 x1 m : Nat) (h : m < 2) (w : World) : (Instr.index 53 (.agg #[.int .u64 (x0 : Int), .int .u64 (x1 : Int)]) (.int .i64 (m : Int))).run Tryz.prog w = .ok (.int .u64 (word2 x0 x1 m : Int)) w := by
  match m, h with
  | 0, _ => exact idxb0 _ _ w
  | 1, _ => exact idxb1 _ _ w
theorem pre_low {zs pre : List Nat} {m k y y' : Nat} (h : zs = pre ++ (bitsL y).map (64 * m + ·)) (hb : bitsL y = k :: bitsL y') : zs = (pre ++ [64 * m + k]) ++ (bitsL y').map (64 * m + ·) := by
  rw [h, hb, List.map_cons, List.append_assoc]
  rfl

set_option maxHeartbeats 4000000 in
theorem bits1_in (n : Nat) (hn : 1 ≤ n) (l Bs N : Nat) (S : Nat → Prop) (x0 x1 : Nat) (h0 : x0 < 2 ^ 64) (h1 : x1 < 2 ^ 64) (J Jx : List Nat → World → Prop)
    (hY : ∀ pre x W, J pre W → pre.length < (upto2 x0 x1 2).length → YieldAt Fence.wide (n - 1) Tryz.prog l (encN x) W fun e W' =>
      (e = .returned (.bool true) ∧ J (pre ++ [x]) W' ∧ KeepB N S W W') ∨ (e = .returned (.bool false) ∧ Jx (pre ++ [x]) W'))
    (W : World) (hBs : Box W Bs [.int .u64 (x0 : Int), .int .u64 (x1 : Int)]) (hT : HasBru W) (hg : 0 < N) (hgS : ¬ S 0) (hJ0 : J [] W) :
    CallsIn Fence.wide n Tryz.prog 55 #[.func (.yield l) #[] #[], .pointer (some ⟨Bs, 0, none⟩)] W fun e W' => (∃ v, e = .returned v) ∧
      ((∃ ys, ys = upto2 x0 x1 2 ∧ J ys W') ∨ (∃ pre, pre <+: upto2 x0 x1 2 ∧ Jx pre W')) := by
  have HY := Lib.hid hY
  have HT := Lib.hid hT
  have HW0 := Lib.hid (show ∀ m, word2 x0 x1 m < 2 ^ 64 from fun m => by unfold word2; split <;> assumption)
  have c0 := hBs.cell 0 rfl
  have c1 := hBs.cell 1 rfl
  clear hY hT h0 h1
  refine callsIn_of_wp Tryz.func55 rfl trivial ?_ rfl
  simp only [Tryz.ntmps55, List.size_toArray, List.length_cons, List.length_nil, Nat.reduceAdd, Nat.reduceSub, Array.replicate_succ, Array.replicate_zero, List.push_toArray, List.append_toArray, List.nil_append, List.cons_append]
  gi_wp2
  gi_loopw [3, 4, 6] (fun _ _ i wr => ∃ m : Nat, m ≤ 2 ∧ i = .int .i64 (m : Int) ∧ Hid (J (upto2 x0 x1 m) wr) ∧ Hid (KeepB N S W wr)) (fun _ _ i _ => 2 - (RowKit.intOf i).toNat)
  case atStart => exact ⟨0, Nat.zero_le _, rfl, Lib.hid hJ0, Lib.hid (KeepB.refl _ _ _)⟩
  case round =>
    obtain ⟨m, hm, rfl, HJ, HK⟩ := hrel
    clear c0 c1
    by_cases hlt : m < 2
    case neg =>
      have HE := Lib.hid (show J (upto2 x0 x1 2) wr from by have := HJ.out; rw [show m = 2 by omega] at this; exact this)
      have hmn : ¬ (m : Int) < 2 := by omega
      clear HJ
      gi_wp2
      go_end0
      first | exact ⟨⟨_, rfl⟩, .inl HE.out⟩ | exact ⟨⟨_, rfl⟩, .inl ⟨_, rfl, HE.out⟩⟩
    case pos =>
      have hix := idxw x0 x1 m hlt
      have hm1 : (m : Int) < 2 := by omega
      have HYW := Lib.hid (HW0.out m)
      obtain ⟨y0, HY0⟩ : ∃ y0, Hid (word2 x0 x1 m = y0) := ⟨_, Lib.hid rfl⟩
      rw [HY0.out] at hix HYW
      have HTOT := Lib.hid (show upto2 x0 x1 (m + 1) = upto2 x0 x1 m ++ (bitsL y0).map (64 * m + ·) from by rw [← HY0.out]; exact upto2_succ x0 x1 m hlt)
      have HPRE := Lib.hid (show upto2 x0 x1 (m + 1) <+: upto2 x0 x1 2 from by
        match m, hlt with
        | 0, _ => exact ⟨(bitsL x1).map (64 + ·), by simp [upto2]⟩
        | 1, _ => exact List.prefix_rfl)
      gi_wp2
      clear hix
      gi_loopw [4] (fun u wr => ∃ (y : Nat) (pre : List Nat), u = .int .u64 (y : Int) ∧ y < 2 ^ 64 ∧ Hid (upto2 x0 x1 (m + 1) = pre ++ (bitsL y).map (64 * m + ·)) ∧ Hid (J pre wr) ∧ Hid (KeepB N S W wr)) (fun u _ => (RowKit.intOf u).toNat)
      case atStart => exact ⟨y0, _, rfl, HYW.out, HTOT, HJ, HK⟩
      case round =>
        clear HJ HK HTOT HYW
        obtain ⟨y, pre, rfl, hy64, HTOT, HJ, HK⟩ := hrel
        by_cases hy0 : y = 0
        case pos =>
          subst hy0
          have HJ2 := Lib.hid (show J (upto2 x0 x1 (m + 1)) _ from by rw [HTOT.out, bitsL_zero, List.map_nil, List.append_nil]; exact HJ.out)
          clear HJ HTOT
          gi_wp2
          go_roundw
          case rel => exact ⟨m + 1, by omega, by go_num, HJ2, HK⟩
          case measure => simp [RowKit.intOf]; omega
        case neg =>
          obtain ⟨k, q, e⟩ := low_exists y y (Nat.le_refl _) hy0
          have hlow : y &&& (2 ^ 64 - y) = 2 ^ k := by rw [e]; exact low_only (e ▸ hy64)
          have hk64 : k < 64 := low_lt (e ▸ hy64 : 2 ^ k * (2 * q + 1) < 2 ^ 64)
          have hbl : bitsL y = k :: bitsL (y &&& (y - 1)) := by rw [e]; exact bitsL_low (e ▸ hy64)
          have HT2 := Lib.hid (pre_low HTOT.out hbl)
          have HPL := Lib.hid (show pre.length < (upto2 x0 x1 2).length from by
            have h1 := HPRE.out.length_le
            rw [HTOT.out, hbl] at h1
            simp only [List.map_cons, List.length_append, List.length_cons] at h1
            omega)
          have HPP := Lib.hid (show pre ++ [64 * m + k] <+: upto2 x0 x1 2 from List.IsPrefix.trans ⟨_, HT2.out.symm⟩ HPRE.out)
          obtain ⟨y', HY'⟩ : ∃ y', Hid (y &&& (y - 1) = y') := ⟨_, Lib.hid rfl⟩
          have hy'l : y' < y := by rw [← HY'.out]; exact Nat.lt_of_le_of_lt Nat.and_le_right (by omega)
          rw [HY'.out] at HT2
          have hsub : IntKind.wrap .u64 ((y : Int) - 1) = ((y - 1 : Nat) : Int) := by rw [show (y : Int) - 1 = ((y - 1 : Nat) : Int) by omega]; exact wrap_u64 _ (by omega)
          have hand : bits .and .u64 (y : Int) ((y - 1 : Nat) : Int) = (y' : Int) := by rw [bits_and_nat _ _ hy64 (by omega), HY'.out]
          have hne1 : ¬ (y : Int) = 0 := by omega
          have hne : ((y : Int) != 0) = true := by simp; omega
          have HLOW := Lib.hid hlow
          clear e hbl hlow HTOT
          have HTW := Lib.hid (HT.out.block (HK.out.block _ hg hgS))
          obtain ⟨fn, tmps, assign, body, hy, hR⟩ := HY.out pre (64 * m + k) wr HJ.out HPL.out
          have HR := Lib.hid hR
          have hcast : ((64 * m + k : Nat) : Int) = (m : Int) * 64 + (k : Int) := by omega
          simp only [encN, hcast] at hy
          clear hR hcast HPL
          gi_wp2_with fail
          refine ⟨trivial, (callsIn_wide.2 (tz_any y k hy64 hy0 hk64 HLOW.out _ HTW.out)).mono ?_⟩
          rintro e w2 ⟨rfl, rfl⟩
          have hk1 : (m : Int) * 64 + (k : Int) < 1000 := by omega
          gi_wp2_with fail
          gi_wp2
          refine HR.out.mono ?_
          rintro e W3 (⟨rfl, hJ3, hk3⟩ | ⟨rfl, hJx3⟩)
          · have HJ3 := Lib.hid hJ3
            have HK3 := Lib.hid (HK.out.trans hk3)
            clear hJ3 hk3 HR hy HJ HK HTW
            gi_wp2
            go_roundw
            case rel => exact ⟨y', _, by go_num, by omega, HT2, HJ3, HK3⟩
            case measure => simp [RowKit.intOf]; omega
          · have HJ3 := Lib.hid hJx3
            clear hJx3 HR hy HJ HK HTW
            gi_wp2
            refine bodyPost_ret (results_none rfl _ _ _) rfl ?_
            exact ⟨⟨_, rfl⟩, .inr ⟨_, HPP.out, HJ3.out⟩⟩

set_option maxHeartbeats 400000 in
theorem all_in (n : Nat) (x0 x1 : Nat) (w : World) :
    CallsIn Fence.wide n Tryz.prog 27 #[.agg #[.int .u64 (x0 : Int), .int .u64 (x1 : Int)]] w fun e w' => e = .returned (.func (.func 55) #[] #[.pointer (some ⟨w.heap.size, 0, none⟩)]) ∧ w' = w.alloc (.cells #[.int .u64 (x0 : Int), .int .u64 (x1 : Int)] 53) := by
  refine callsIn_of_wp Tryz.func27 rfl trivial ?_ rfl
  simp only [Tryz.ntmps27, List.size_toArray, List.length_cons, List.length_nil, Nat.reduceAdd, Nat.reduceSub, Array.replicate_succ, Array.replicate_zero, List.push_toArray, List.append_toArray, List.nil_append, List.cons_append]
  gi_wp2
  go_ret
  exact ⟨rfl, rfl⟩

theorem all_stops (n : Nat) (hn : 1 ≤ n) (Bs N : Nat) (S : Nat → Prop) (x0 x1 : Nat) (h0 : x0 < 2 ^ 64) (h1 : x1 < 2 ^ 64) (w : World) (hB : Box w Bs [.int .u64 (x0 : Int), .int .u64 (x1 : Int)]) (hT : HasBru w)
    (hg : 0 < N) (hgS : ¬ S 0) :
    SeqStopsK Fence.wide n Tryz.prog 55 #[.pointer (some ⟨Bs, 0, none⟩)] encN (KeepB N S) (fun ys => ys = upto2 x0 x1 2) (fun pre => pre <+: upto2 x0 x1 2) (upto2 x0 x1 2).length w := fun l J Jx W hW _ _ hY hJ0 =>
  bits1_in n hn l Bs N S x0 x1 h0 h1 J Jx hY W (hB.below hW hB.lt) (hT.below hW hT.lt) hg hgS hJ0
end Go.Proofs.YtglgdbnhnchabaaGreatDoor

/-
  impl: the sectors of a core, and how many there are.
-/
set_option maxRecDepth 100000
namespace Go.Proofs.YtglgdbnhnchabaaGreatDoor
open Go.ChangeShapes Go.WideShapes Go.ChangeAt Go.RowKit Go.Proofs.Palim

set_option maxHeartbeats 4000000 in
theorem rstored_any (v : Value) (ls : List EntM) (w : World) (h : Sl w 3 v ls.length (ecs ls)) (hv : Low w.heap.size v) (hl : ls.length ≤ 1000) :
    Calls Tryz.prog 36 #[v] w fun e w' => ∃ x0 x1, e = .returned (bv x0 x1) ∧ BitsR x0 x1 (storedB ls) ∧ Below w.heap.size w w' := by
  obtain ⟨n, HL⟩ : ∃ n, Hid (ls.length = n) := ⟨_, Lib.hid rfl⟩
  rw [HL.out] at h hl
  obtain ⟨X1, X2, hsz, hB⟩ := box2 w #[.int .u64 0, .int .u64 0] #[.int .u64 0, .int .u64 0] 53 53
  have X1 := Lib.hid X1
  have X2 := Lib.hid X2
  have B0 := Lib.hid hB
  have HS := Lib.hid h
  have HV := Lib.hid hv
  clear hB
  obtain ⟨_, A, c, rfl, _, hcm, _⟩ := h
  unfold maxLen at hcm
  clear hv
  go_enter Tryz.func36, Tryz.ntmps36
  go_wp2
  generalize (w.alloc (.cells #[.int .u64 0, .int .u64 0] 53)).alloc (.cells #[.int .u64 0, .int .u64 0] 53) = W at X1 X2 B0 hsz ⊢
  go_loopw [5, 8] (fun _ i wr => ∃ (k x0 x1 : Nat), k ≤ n ∧ i = .int .i64 k ∧ Hid (Box wr w.heap.size [.int .u64 0, .int .u64 0]) ∧ Hid (Box wr (w.heap.size + 1) [.int .u64 (x0 : Int), .int .u64 (x1 : Int)]) ∧ Hid (BitsR x0 x1 (storedB (ls.take k))) ∧ Hid (Below w.heap.size w wr)) (fun _ i _ => n - (RowKit.intOf i).toNat)
  case atStart => exact ⟨0, 0, 0, Nat.zero_le _, rfl, X1, X2, Lib.hid bits_zero, B0⟩
  case round =>
    clear X1 X2 B0 hsz
    obtain ⟨k, x0, x1, hk, rfl, HX1, HX2, HR, HB⟩ := hrel
    by_cases hlt : k < n
    case pos =>
      have hl0 : k < ls.length := by rw [HL.out]; exact hlt
      obtain ⟨b, off, c', hvv, _, _, hcell⟩ := (HS.out.below HB.out HV.out).form (by omega)
      injection hvv with e1 e2 e3
      subst e1 e3
      clear e2
      obtain ⟨g0, g1, g2⟩ := ent_read hcell k hl0
      have hk1 : (k : Int) < (n : Int) := by omega
      have HSN := Lib.hid (stored_snoc hl0)
      generalize ls[k] = y at g0 g1 g2 HSN
      have hn1 := Below.new1 (w := wr) (.cells #[.int .i64 y.sum, .int .i64 y.at_, .int .i64 y.count] 91)
      have Y1 := Lib.hid (HX1.out.below hn1 HX1.out.lt)
      have Y2 := Lib.hid (HX2.out.below hn1 HX2.out.lt)
      have HB1 := Lib.hid (HB.out.trans (hn1.mono HB.out.size))
      clear hcell hn1 HX1 HX2 HB hl0
      go_wp2_with fail
      refine (badd_any (w.heap.size + 1) x0 x1 _ y.at_ _ Y2.out HR.out).mono ?_
      rintro e w2 ⟨rfl, y0, y1, hbits, hbox, ht⟩
      rw [HSN.out] at hbits
      have HR2 := Lib.hid hbits
      have Z1 := Lib.hid (Y1.out.turned ht (by simp))
      have Z2 := Lib.hid hbox
      have HB2 := Lib.hid (HB1.out.trans (ht.below (fun q hq _ h => by omega) HB1.out.size))
      clear hbits hbox ht Y1 Y2 HB1 HR
      go_wp2
      go_roundw
      case rel => exact ⟨k + 1, y0, y1, by omega, by go_num, Z1, Z2, HR2, HB2⟩
      case measure => simp [RowKit.intOf]; omega
    case neg =>
      have HT := Lib.hid (show ls.take k = ls from List.take_of_length_le (by rw [HL.out]; omega))
      obtain ⟨c0, c1⟩ := HX2.out.two
      obtain ⟨d0, d1⟩ := HX1.out.two
      have f0 := HX1.out.open_ 0
      have f1 := HX1.out.open_ 1
      have HF := (HX1.out.set 0 (.int .u64 (x0 : Int))).set 1 (.int .u64 (x1 : Int))
      have HL2 := (HB.out.setCell (p := ⟨w.heap.size, 0, none⟩) (Nat.le_refl _) (.int .u64 (x0 : Int))).setCell (p := ⟨w.heap.size, 1, none⟩) (Nat.le_refl _) (.int .u64 (x1 : Int))
      go_wp2
      refine bodyPost_ret (v := bv x0 x1) (results_box rfl _ w.heap.size [.int .u64 (x0 : Int), .int .u64 (x1 : Int)] aggBits rfl rfl HF) rfl ?_
      exact ⟨x0, x1, rfl, by have := HR.out; rw [HT.out] at this; exact this, HL2⟩
theorem aggSplit : Agg Tryz.prog 55 6 := ⟨Tryz.isAgg55, Tryz.sizeOf55⟩
/-- What roomOf answers: six words, three sets. -/
structure SplitR (c : CoreM) (n : Int) (a0 a1 b0 b1 f0 f1 : Nat) : Prop where
  s : BitsR a0 a1 (fun i => decide (RoomOk c n) && partS c n i)
  o : BitsR b0 b1 (fun i => decide (RoomOk c n) && partO c n i)
  f : BitsR f0 f1 (fun i => decide (RoomOk c n) && partF c n i)
abbrev sv (a0 a1 b0 b1 f0 f1 : Nat) : List Value := [.int .u64 (a0 : Int), .int .u64 (a1 : Int), .int .u64 (b0 : Int), .int .u64 (b1 : Int), .int .u64 (f0 : Int), .int .u64 (f1 : Int)]

structure Four (w0 w : World) (H K R x0 x1 y0 y1 t0 t1 : Nat) : Prop where
  a : Box w H [.int .u64 (x0 : Int), .int .u64 (x1 : Int)]
  b : Box w (H + 1) [.int .u64 (y0 : Int), .int .u64 (y1 : Int)]
  c : Box w K [.int .u64 (t0 : Int), .int .u64 (t1 : Int)]
  d : Box w R [.int .u64 0, .int .u64 0, .int .u64 0, .int .u64 0, .int .u64 0, .int .u64 0]
  e : Below w0.heap.size w0 w
theorem Four.below {w0 w w' : World} {H K R x0 x1 y0 y1 t0 t1 : Nat} (h : Four w0 w H K R x0 x1 y0 y1 t0 t1) (hb : Below w.heap.size w w') : Four w0 w' H K R x0 x1 y0 y1 t0 t1 := ⟨h.a.below hb h.a.lt, h.b.below hb h.b.lt, h.c.below hb h.c.lt, h.d.below hb h.d.lt, h.e.trans (hb.mono h.e.size)⟩

set_option maxHeartbeats 8000000 in
theorem roomOf_any (vs vd vp vi : Value) (c : CoreM) (n : Int) (w : World) (h : CoreR w vs vd vp vi c) (hs : CoreShort c) (hn0 : -9223372036854775808 ≤ n) :
    Calls Tryz.prog 26 #[cv c vs vd vp vi, .int .i64 n] w fun e w' => ∃ a0 a1 b0 b1 f0 f1, e = .returned (.agg (sv a0 a1 b0 b1 f0 f1).toArray) ∧ SplitR c n a0 a1 b0 b1 f0 f1 ∧ Below w.heap.size w w' := by
  have hnot : ∀ (x : Bool) (w : World), (Op.unary .not (.bool x)).run Tryz.prog w = .ok (.bool (!x)) w := fun _ _ => rfl
  have HS := Lib.hid hs
  obtain ⟨A0, k0, A1, k1, A2, k2, A3, k3, rfl, rfl, rfl, rfl⟩ := h.forms
  have HRD := Lib.hid h
  have hn1 := Below.new1 (w := w.alloc (.cells #[.int .i64 c.txg, .slice A0 c.sets.length k0, .slice A1 c.ddt.length k1, .slice A2 c.parts.length k2, .bool c.dirty, .slice A3 c.safe.length k3, .int .i64 c.logn] 34)) (.cells #[.int .u64 0, .int .u64 0, .int .u64 0, .int .u64 0, .int .u64 0, .int .u64 0] 55)
  have XC := Lib.hid ((kbox_new h 34).below hn1)
  have hb0 := Below.new1 (w := w) (.cells #[.int .i64 c.txg, .slice A0 c.sets.length k0, .slice A1 c.ddt.length k1, .slice A2 c.parts.length k2, .bool c.dirty, .slice A3 c.safe.length k3, .int .i64 c.logn] 34)
  have B := Lib.hid (hb0.trans (hn1.mono hb0.size))
  have XR := Lib.hid (show Box _ (w.heap.size + 1) [.int .u64 0, .int .u64 0, .int .u64 0, .int .u64 0, .int .u64 0, .int .u64 0] from by have := box_new (w.alloc (.cells #[.int .i64 c.txg, .slice A0 c.sets.length k0, .slice A1 c.ddt.length k1, .slice A2 c.parts.length k2, .bool c.dirty, .slice A3 c.safe.length k3, .int .i64 c.logn] 34)) #[.int .u64 0, .int .u64 0, .int .u64 0, .int .u64 0, .int .u64 0, .int .u64 0] 55; simpa using this)
  clear h hs hn1 hb0
  go_enter Tryz.func26, Tryz.ntmps26
  go_upto_region 1 with fail
  obtain ⟨W0, HWE⟩ : ∃ W0, (w.alloc (.cells #[.int .i64 c.txg, .slice A0 c.sets.length k0, .slice A1 c.ddt.length k1, .slice A2 c.parts.length k2, .bool c.dirty, .slice A3 c.safe.length k3, .int .i64 c.logn] 34)).alloc (.cells #[.int .u64 0, .int .u64 0, .int .u64 0, .int .u64 0, .int .u64 0, .int .u64 0] 55) = W0 := ⟨_, rfl⟩
  rw [HWE] at XC B XR ⊢
  clear HWE
  go_wp2_with (refine wpList_load_box rfl _ rfl aggCore rfl (kcore c (.slice A0 c.sets.length k0) (.slice A1 c.ddt.length k1) (.slice A2 c.parts.length k2) (.slice A3 c.safe.length k3)) rfl XC.out.box ?_)
  refine (implCoreOk_any _ _ _ _ c _ XC.out.reads HS.out).mono ?_
  rintro e w1 ⟨rfl, hb⟩
  have XC' := Lib.hid (XC.out.below hb)
  have XR' := Lib.hid (XR.out.below hb XR.out.lt)
  have B' := Lib.hid (B.out.trans (hb.mono B.out.size))
  clear hb XC B XR
  have XC := XC'
  have B := B'
  have XR := XR'
  clear XC' B' XR'
  by_cases hro : RoomOk c n
  case neg =>
    have HSP := Lib.hid (show SplitR c n 0 0 0 0 0 0 from by
      refine ⟨?_, ?_, ?_⟩ <;> (rw [decide_eq_false hro]; exact bits_ext bits_zero (fun i _ => by simp)))
    have hr : ¬ CoreOkM c ∨ (CoreOkM c ∧ n > 120) := by
      by_cases hc : CoreOkM c
      · right; exact ⟨hc, by have : ¬ n ≤ 120 := fun h => hro ⟨hc, h⟩; omega⟩
      · left; exact hc
    clear hro
    obtain ⟨q0, q1, q2, q3, q4, q5⟩ := And.intro (XR.out.cell 0 rfl) (And.intro (XR.out.cell 1 rfl) (And.intro (XR.out.cell 2 rfl) (And.intro (XR.out.cell 3 rfl) (And.intro (XR.out.cell 4 rfl) (XR.out.cell 5 rfl)))))
    have HPA := Lib.hid (XR.out.putAll (sv 0 0 0 0 0 0) rfl)
    have HPB := Lib.hid (putC_below B.out (w.heap.size + 1) 0 (by omega) (sv 0 0 0 0 0 0))
    rcases hr with hc | ⟨hc, hn⟩
    · rw [decide_eq_false hc]
      clear hc
      go_wp2_with (first | (refine wpList_build0 rfl rfl #[.int .u64 0, .int .u64 0, .int .u64 0, .int .u64 0, .int .u64 0, .int .u64 0] (by kernel_rfl) ?_) | (refine wpList_store_box rfl _ _ rfl rfl aggSplit rfl (sv 0 0 0 0 0 0) rfl rfl (by simp [Value.oneCell']) [.int .u64 0, .int .u64 0, .int .u64 0, .int .u64 0, .int .u64 0, .int .u64 0] XR.out rfl ?_; generalize putC w1 (w.heap.size + 1) 0 (sv 0 0 0 0 0 0) = WF at HPA HPB ⊢))
      refine bodyPost_ret (v := .agg (sv 0 0 0 0 0 0).toArray) (results_box rfl _ (w.heap.size + 1) (sv 0 0 0 0 0 0) aggSplit rfl rfl HPA.out) rfl ?_
      exact ⟨0, 0, 0, 0, 0, 0, rfl, HSP.out, HPB.out⟩
    · rw [decide_eq_true hc]
      clear hc
      go_wp2_with (first | (refine wpList_build0 rfl rfl #[.int .u64 0, .int .u64 0, .int .u64 0, .int .u64 0, .int .u64 0, .int .u64 0] (by kernel_rfl) ?_) | (refine wpList_store_box rfl _ _ rfl rfl aggSplit rfl (sv 0 0 0 0 0 0) rfl rfl (by simp [Value.oneCell']) [.int .u64 0, .int .u64 0, .int .u64 0, .int .u64 0, .int .u64 0, .int .u64 0] XR.out rfl ?_; generalize putC w1 (w.heap.size + 1) 0 (sv 0 0 0 0 0 0) = WF at HPA HPB ⊢))
      refine bodyPost_ret (v := .agg (sv 0 0 0 0 0 0).toArray) (results_box rfl _ (w.heap.size + 1) (sv 0 0 0 0 0 0) aggSplit rfl rfl HPA.out) rfl ?_
      exact ⟨0, 0, 0, 0, 0, 0, rfl, HSP.out, HPB.out⟩
  case pos =>
  have HRO := Lib.hid hro
  have hn120 : ¬ n > 120 := by have := hro.2; omega
  rw [decide_eq_true hro.1]
  clear hro
  have hcn := B.out.size
  have hxr := XR.out.lt
  have XC2 := Lib.hid XC.out.box
  clear XC
  obtain ⟨X5, X6, hsz, hB⟩ := box2 w1 #[.int .u64 0, .int .u64 0] #[.int .u64 0, .int .u64 0] 53 53
  obtain ⟨H, HH⟩ : ∃ H, w1.heap.size = H := ⟨_, rfl⟩
  have XC := Lib.hid (XC2.out.below hB (by omega))
  have XR' := Lib.hid (XR.out.below hB hxr)
  have B' := Lib.hid (B.out.trans (hB.mono B.out.size))
  rw [HH] at X5 X6 hsz hcn hxr
  have X5 := Lib.hid X5
  have X6 := Lib.hid X6
  clear hB XC2 XR B
  have XR := XR'
  have B := B'
  clear XR' B'
  go_wp2
  try rw [HH]
  obtain ⟨W1, HWE⟩ : ∃ W1, (w1.alloc (.cells #[.int .u64 0, .int .u64 0] 53)).alloc (.cells #[.int .u64 0, .int .u64 0] 53) = W1 := ⟨_, rfl⟩
  rw [HWE] at XC XR B X5 X6 hsz ⊢
  clear HWE HH
  go_loopw [7] (fun i wr => ∃ (m x0 x1 : Nat), 13 ≤ m ∧ i = .int .i64 m ∧ (m = 13 ∨ (m : Int) ≤ n) ∧ Hid (Box wr H [.int .u64 (x0 : Int), .int .u64 (x1 : Int)]) ∧ Hid (Box wr (H + 1) [.int .u64 0, .int .u64 0]) ∧ Hid (BitsR x0 x1 (thereB (m : Int))) ∧ Hid (Box wr w.heap.size (kcore c (.slice A0 c.sets.length k0) (.slice A1 c.ddt.length k1) (.slice A2 c.parts.length k2) (.slice A3 c.safe.length k3))) ∧ Hid (Box wr (w.heap.size + 1) [.int .u64 0, .int .u64 0, .int .u64 0, .int .u64 0, .int .u64 0, .int .u64 0]) ∧ Hid (Below w.heap.size w wr)) (fun i _ => 121 - (RowKit.intOf i).toNat)
  case atStart => exact ⟨13, 0, 0, Nat.le_refl _, rfl, Or.inl rfl, X5, X6, Lib.hid (bits_ext bits_zero (fun i _ => by rw [there_low (by omega)])), XC, XR, B⟩
  case round =>
    clear X5 X6 XC XR B hsz
    obtain ⟨m, x0, x1, hm13, rfl, hmn, X5, X6, HT, XC, XR, B⟩ := hrel
    by_cases hlt : (m : Int) < n
    case pos =>
      have hm120 : m < 120 := by omega
      have HSN := Lib.hid (there_snoc hm13 hm120)
      have hwr : IntKind.wrap .i64 ((m : Int) + 1) = ((m + 1 : Nat) : Int) := by rw [IntWalk.i64_in _ (by omega)]; omega
      go_wp2_with fail
      refine (badd_any H x0 x1 _ (m : Int) _ X5.out HT.out).mono ?_
      rintro e w2 ⟨rfl, y0, y1, hbits, hbox, ht⟩
      rw [HSN.out] at hbits
      have HT2 := Lib.hid hbits
      have hbl : Below H wr w2 := ht.below (fun q hq _ h => by omega) (Nat.le_of_lt X5.out.lt)
      have Y5 := Lib.hid hbox
      have Y6 := Lib.hid (X6.out.turned ht (by simp))
      have YC := Lib.hid (XC.out.below hbl (by omega))
      have YR := Lib.hid (XR.out.below hbl hxr)
      have YB := Lib.hid (B.out.trans (hbl.mono (by omega)))
      clear hbits hbox ht hbl X5 X6 XC XR B HT
      go_wp2
      go_roundw
      case rel => exact ⟨m + 1, y0, y1, by omega, by first | rfl | go_num, Or.inr (by omega), Y5, Y6, HT2, YC, YR, YB⟩
      case measure => simp [RowKit.intOf]; omega
    case neg =>
      have HTN := Lib.hid (show BitsR x0 x1 (thereB n) from by
        rcases hmn with h | h
        · refine bits_ext HT.out (fun i _ => ?_)
          rw [there_low (show ((m : Nat) : Int) ≤ 13 by omega), there_low (by omega)]
        · have e : (m : Int) = n := by omega
          rw [← e]; exact HT.out)
      have n5 := XC.out.cell 5 rfl
      have hsl := HS.out.i
      clear HT
      go_wp2
      clear n5
      go_loopw [9, 29] (fun _ i wr => ∃ (k y0 y1 : Nat), k ≤ c.safe.length ∧ i = .int .i64 k ∧ Hid (Box wr H [.int .u64 (x0 : Int), .int .u64 (x1 : Int)]) ∧ Hid (Box wr (H + 1) [.int .u64 (y0 : Int), .int .u64 (y1 : Int)]) ∧ Hid (BitsR y0 y1 (safeB (c.safe.take k))) ∧ Hid (Box wr w.heap.size (kcore c (.slice A0 c.sets.length k0) (.slice A1 c.ddt.length k1) (.slice A2 c.parts.length k2) (.slice A3 c.safe.length k3))) ∧ Hid (Box wr (w.heap.size + 1) [.int .u64 0, .int .u64 0, .int .u64 0, .int .u64 0, .int .u64 0, .int .u64 0]) ∧ Hid (Below w.heap.size w wr)) (fun _ i _ => c.safe.length - (RowKit.intOf i).toNat)
      case atStart => exact ⟨0, 0, 0, Nat.zero_le _, rfl, X5, X6, Lib.hid bits_zero, XC, XR, B⟩
      case round =>
        clear X5 X6 XC XR B
        obtain ⟨k, y0, y1, hk, rfl, X5, X6, HT, XC, XR, B⟩ := hrel
        by_cases hlk : k < c.safe.length
        case pos =>
          obtain ⟨b, off, c', hvv, _, _, hcell⟩ := (HRD.out.below B.out).i.form (by omega)
          injection hvv with e1 e2 e3
          subst e1 e3
          clear e2
          have g0 := hcell k _ (ics_at c.safe k hlk)
          have hk1 : (k : Int) < (c.safe.length : Int) := by omega
          have HSN := Lib.hid (safe_snoc hlk)
          generalize c.safe[k] = y at g0 HSN
          go_wp2_with fail
          refine (badd_any (H + 1) y0 y1 _ y _ X6.out HT.out).mono ?_
          rintro e w2 ⟨rfl, z0, z1, hbits, hbox, ht⟩
          rw [HSN.out] at hbits
          have HT2 := Lib.hid hbits
          have hbl : Below (H + 1) wr w2 := ht.below (fun q hq _ h => by omega) (Nat.le_of_lt X6.out.lt)
          have Y5 := Lib.hid (X5.out.below hbl (by omega))
          have Y6 := Lib.hid hbox
          have YC := Lib.hid (XC.out.below hbl (by omega))
          have YR := Lib.hid (XR.out.below hbl (by omega))
          have YB := Lib.hid (B.out.trans (hbl.mono (by omega)))
          clear hbits hbox ht hbl X5 X6 XC XR B HT hcell
          go_wp2
          go_roundw
          case rel => exact ⟨k + 1, z0, z1, by omega, by go_num, Y5, Y6, HT2, YC, YR, YB⟩
          case measure => simp [RowKit.intOf]; omega
        case neg =>
          have HSF := Lib.hid (show BitsR y0 y1 (safeB c.safe) from by have := HT.out; rwa [List.take_of_length_le (by omega)] at this)
          have n2 := XC.out.cell 2 rfl
          have hkn : ¬ (k : Int) < (c.safe.length : Int) := by omega
          have hd48 : c.ddt.length ≤ 1000 := by have := HRO.out.1.2.1.1; omega
          have h56 := X6.out.lt
          clear HT
          go_wp2_with fail
          refine (rstored_any _ c.ddt _ (HRD.out.below B.out).d (HRD.out.below B.out).ld hd48).mono ?_
          rintro e w2 ⟨t0, t1, rfl, hst, hb⟩
          have HST := Lib.hid hst
          have hn10 := Below.new1 (w := w2) (.cells #[.int .u64 (t0 : Int), .int .u64 (t1 : Int)] 53)
          have hb2 := hb.trans (hn10.mono hb.size)
          have X10 := Lib.hid (show Box _ w2.heap.size [.int .u64 (t0 : Int), .int .u64 (t1 : Int)] from box_new w2 #[.int .u64 (t0 : Int), .int .u64 (t1 : Int)] 53)
          have Y5 := Lib.hid (X5.out.below hb2 X5.out.lt)
          have Y6 := Lib.hid (X6.out.below hb2 X6.out.lt)
          have YR := Lib.hid (XR.out.below hb2 XR.out.lt)
          have YB := Lib.hid (B.out.trans (hb2.mono B.out.size))
          have hw2 := hb.size
          clear hst hb hb2 hn10 X5 X6 XR B XC n2
          go_upto_region 14 with fail
          obtain ⟨W4, HWE⟩ : ∃ W4, w2.alloc (.cells #[.int .u64 (t0 : Int), .int .u64 (t1 : Int)] 53) = W4 := ⟨_, rfl⟩
          rw [HWE] at X10 Y5 Y6 YR YB ⊢
          clear HWE
          obtain ⟨K0, HK0⟩ : ∃ K0, w2.heap.size = K0 := ⟨_, rfl⟩
          rw [HK0] at X10 hw2 ⊢
          clear HK0
          refine wp_region_held_drew (S := fun w' => Box w' H [.int .u64 (x0 : Int), .int .u64 (x1 : Int)] ∧ Box w' (H + 1) [.int .u64 (y0 : Int), .int .u64 (y1 : Int)] ∧ Box w' K0 [.int .u64 (t0 : Int), .int .u64 (t1 : Int)]) (by kernel_rfl) ⟨Y5.out, Y6.out, X10.out⟩ (fun hHeld => ?_)
          have hF0 := Lib.hid (show Four w W4.drew H K0 (w.heap.size + 1) x0 x1 y0 y1 t0 t1 from ⟨Y5.out.drew, Y6.out.drew, X10.out.drew, YR.out.drew, YB.out.drew⟩)
          clear YB YR X10 Y5 Y6
          refine wpAnyH_take (i := 0) (v := (bv x0 x1)) rfl (by kernel_rfl) (by kernel_rfl) (by kernel_rfl) (fun _ _ _ h => h) (Or.inl ⟨by first | kernel_rfl | rfl, fun w' hSw => exec_load_cs _ rfl aggBits rfl [.int .u64 (x0 : Int), .int .u64 (x1 : Int)] rfl hSw.1.cells⟩) (by assumption) ?_
          try simp only [Act.put]
          refine wpAnyH_take (i := 1) (v := (bv t0 t1)) rfl (by kernel_rfl) (by kernel_rfl) (by kernel_rfl) (fun _ _ _ h => h) (Or.inl ⟨by first | kernel_rfl | rfl, fun w' hSw => exec_load_cs _ rfl aggBits rfl [.int .u64 (t0 : Int), .int .u64 (t1 : Int)] rfl hSw.2.2.cells⟩) (by assumption) ?_
          try simp only [Act.put]
          refine wpAnyH_take (i := 3) (v := (bv x0 x1)) rfl (by kernel_rfl) (by kernel_rfl) (by kernel_rfl) (fun _ _ _ h => h) (Or.inl ⟨by first | kernel_rfl | rfl, fun w' hSw => exec_load_cs _ rfl aggBits rfl [.int .u64 (x0 : Int), .int .u64 (x1 : Int)] rfl hSw.1.cells⟩) (by assumption) ?_
          try simp only [Act.put]
          refine wpAnyH_take (i := 4) (v := (bv y0 y1)) rfl (by kernel_rfl) (by kernel_rfl) (by kernel_rfl) (fun _ _ _ h => h) (Or.inl ⟨by first | kernel_rfl | rfl, fun w' hSw => exec_load_cs _ rfl aggBits rfl [.int .u64 (y0 : Int), .int .u64 (y1 : Int)] rfl hSw.2.1.cells⟩) (by assumption) ?_
          try simp only [Act.put]
          refine wpAnyH_take (i := 6) (v := (bv t0 t1)) rfl (by kernel_rfl) (by kernel_rfl) (by kernel_rfl) (fun _ _ _ h => h) (Or.inl ⟨by first | kernel_rfl | rfl, fun w' hSw => exec_load_cs _ rfl aggBits rfl [.int .u64 (t0 : Int), .int .u64 (t1 : Int)] rfl hSw.2.2.cells⟩) (by assumption) ?_
          try simp only [Act.put]
          refine wpAnyH_take (i := 8) (v := (bv x0 x1)) rfl (by kernel_rfl) (by kernel_rfl) (by kernel_rfl) (fun _ _ _ h => h) (Or.inl ⟨by first | kernel_rfl | rfl, fun w' hSw => exec_load_cs _ rfl aggBits rfl [.int .u64 (x0 : Int), .int .u64 (x1 : Int)] rfl hSw.1.cells⟩) (by assumption) ?_
          try simp only [Act.put]
          refine wpAnyH_take (i := 9) (v := (bv t0 t1)) rfl (by kernel_rfl) (by kernel_rfl) (by kernel_rfl) (fun _ _ _ h => h) (Or.inl ⟨by first | kernel_rfl | rfl, fun w' hSw => exec_load_cs _ rfl aggBits rfl [.int .u64 (t0 : Int), .int .u64 (t1 : Int)] rfl hSw.2.2.cells⟩) (by assumption) ?_
          try simp only [Act.put]
          refine wpAnyH_take (i := 11) (v := (bv y0 y1)) rfl (by kernel_rfl) (by kernel_rfl) (by kernel_rfl) (fun _ _ _ h => h) (Or.inl ⟨by first | kernel_rfl | rfl, fun w' hSw => exec_load_cs _ rfl aggBits rfl [.int .u64 (y0 : Int), .int .u64 (y1 : Int)] rfl hSw.2.1.cells⟩) (by assumption) ?_
          try simp only [Act.put]
          refine wpAnyH_ready (rs := [2]) (by kernel_rfl) (by simp) ?_
          refine AllReadyH.cons rfl (fun K hK => ?_) AllReadyH.nil
          go_simp
          go_at_call 53
          refine (bwith_any _ _ _ _ _ _ HTN.out HST.out W4.drew).mono ?_
          rintro e w5 ⟨p0, p1, rfl, hp, hb5⟩
          go_wp2_with fail
          have hF1 := Lib.hid (hF0.out.below hb5)
          refine hK.out _ _ ⟨hF1.out.a, hF1.out.b, hF1.out.c⟩ (fun hHeldp => ?_)
          clear hK K hF0 hb5
          try simp only [Act.put]
          refine wpAnyH_ready (rs := [5]) (by kernel_rfl) (by simp) ?_
          refine AllReadyH.cons rfl (fun K hK => ?_) AllReadyH.nil
          go_simp
          go_at_call 53
          refine (bwith_any _ _ _ _ _ _ HTN.out HSF.out _).mono ?_
          rintro e w6 ⟨q0, q1, rfl, hq, hb6⟩
          go_wp2_with fail
          have hF2 := Lib.hid (hF1.out.below hb6)
          refine hK.out _ _ ⟨hF2.out.a, hF2.out.b, hF2.out.c⟩ (fun hHeldq => ?_)
          clear hK K hF1 hb6
          try simp only [Act.put]
          refine wpAnyH_ready (rs := [7]) (by kernel_rfl) (by simp) ?_
          refine AllReadyH.cons rfl (fun K hK => ?_) AllReadyH.nil
          go_simp
          go_at_call 54
          refine (bwout_any _ _ _ _ _ _ hq HST.out _).mono ?_
          rintro e w7 ⟨r0, r1, rfl, hr, hb7⟩
          go_wp2_with fail
          have hF3 := Lib.hid (hF2.out.below hb7)
          refine hK.out _ _ ⟨hF3.out.a, hF3.out.b, hF3.out.c⟩ (fun hHeldr => ?_)
          clear hK K hF2 hb7
          try simp only [Act.put]
          refine wpAnyH_ready (rs := [10]) (by kernel_rfl) (by simp) ?_
          refine AllReadyH.cons rfl (fun K hK => ?_) AllReadyH.nil
          go_simp
          go_at_call 54
          refine (bwout_any _ _ _ _ _ _ HTN.out HST.out _).mono ?_
          rintro e w8 ⟨u0, u1, rfl, hu, hb8⟩
          go_wp2_with fail
          have hF4 := Lib.hid (hF3.out.below hb8)
          refine hK.out _ _ ⟨hF4.out.a, hF4.out.b, hF4.out.c⟩ (fun hHeldu => ?_)
          clear hK K hF3 hb8
          try simp only [Act.put]
          refine wpAnyH_ready (rs := [12]) (by kernel_rfl) (by simp) ?_
          refine AllReadyH.cons rfl (fun K hK => ?_) AllReadyH.nil
          go_simp
          go_at_call 54
          refine (bwout_any _ _ _ _ _ _ hu HSF.out _).mono ?_
          rintro e w9 ⟨v0, v1, rfl, hv, hb9⟩
          go_wp2_with fail
          have hF5 := Lib.hid (hF4.out.below hb9)
          refine hK.out _ _ ⟨hF5.out.a, hF5.out.b, hF5.out.c⟩ (fun hHeldv => ?_)
          clear hK K hF4 hb9
          try simp only [Act.put]
          refine wpAnyH_take (i := 13) (v := (.agg (sv p0 p1 r0 r1 v0 v1).toArray)) rfl (by kernel_rfl) (by kernel_rfl) (by kernel_rfl) (fun _ _ _ h => h) (Or.inl ⟨by first | kernel_rfl | rfl, fun w' hSw => by first | kernel_rfl | rfl | (clear hSw; go_simp; try with_reducible rfl)⟩) (by assumption) ?_
          try simp only [Act.put]
          refine wpAnyH_ready (rs := [14]) (by kernel_rfl) (by simp) ?_
          refine AllReadyH.cons rfl (fun K hK => ?_) AllReadyH.nil
          refine Eq.mpr (if_pos (by rfl)) ?_
          refine wp_store_cs (off := 0) _ _ rfl rfl aggSplit rfl (sv p0 p1 r0 r1 v0 v1) rfl rfl (by simp [Value.oneCell']) (hF5.out.d.may 0 6 (by simp)) ?_
          have ht := putC_turned (turned_of_below (S := fun q => q = w.heap.size + 1) (Below.refl _ w9)) (w.heap.size + 1) 0 rfl (sv p0 p1 r0 r1 v0 v1)
          have hHw : w.heap.size + 1 < H := by omega
          have hKw : w.heap.size + 1 < K0 := by omega
          have HPA := Lib.hid (hF5.out.d.putAll (sv p0 p1 r0 r1 v0 v1) rfl)
          have HPB := Lib.hid (putC_below hF5.out.e (w.heap.size + 1) 0 (by omega) (sv p0 p1 r0 r1 v0 v1))
          refine hK.out _ _ ⟨hF5.out.a.turned ht (by first | omega | (simp; omega)), hF5.out.b.turned ht (by first | omega | (simp; omega)), hF5.out.c.turned ht (by first | omega | (simp; omega))⟩ (fun hHeldz => ?_)
          clear hK K ht
          try simp only [Act.put]
          refine wpAnyH_done (by kernel_rfl) ?_ _
          go_simp
          clear hHeld hHeldp hHeldq hHeldr hHeldu hHeldv hHeldz
          have HSP := Lib.hid (show SplitR c n p0 p1 r0 r1 v0 v1 from ⟨bits_ext hp (fun i _ => by rw [decide_eq_true HRO.out, Bool.true_and]; rfl), bits_ext hr (fun i _ => by rw [decide_eq_true HRO.out, Bool.true_and]; rfl), bits_ext hv (fun i _ => by rw [decide_eq_true HRO.out, Bool.true_and]; rfl)⟩)
          clear hp hq hr hu hv hF5
          generalize putC w9 (w.heap.size + 1) 0 (sv p0 p1 r0 r1 v0 v1) = WF at HPA HPB ⊢
          go_wp2
          refine bodyPost_ret (v := .agg (sv p0 p1 r0 r1 v0 v1).toArray) (results_box rfl _ (w.heap.size + 1) (sv p0 p1 r0 r1 v0 v1) aggSplit rfl rfl HPA.out) rfl ?_
          exact ⟨p0, p1, r0, r1, v0, v1, rfl, HSP.out, HPB.out⟩
end Go.Proofs.YtglgdbnhnchabaaGreatDoor

/-
  impl.RoomSums and impl.RoomMay.
-/
set_option maxRecDepth 100000
namespace Go.Proofs.YtglgdbnhnchabaaGreatDoor
open Go.ChangeShapes Go.WideShapes Go.ChangeAt Go.RowKit Go.Proofs.Palim

theorem roomOf_is (vs vd vp vi : Value) (c : CoreM) (n : Int) (w : World) (h : CoreR w vs vd vp vi c) (hs : CoreShort c) (hn0 : -9223372036854775808 ≤ n) :
    Calls Tryz.prog 26 #[cv c vs vd vp vi, .int .i64 n] w fun e w' => ∃ a0 a1 b0 b1 f0 f1 : Nat, e = .returned (.agg #[.int .u64 (a0 : Int), .int .u64 (a1 : Int), .int .u64 (b0 : Int), .int .u64 (b1 : Int), .int .u64 (f0 : Int), .int .u64 (f1 : Int)]) ∧ SplitR c n a0 a1 b0 b1 f0 f1 ∧ Below w.heap.size w w' := roomOf_any vs vd vp vi c n w h hs hn0
theorem field2 (a0 a1 b0 b1 f0 f1 : Value) (w : World) : (Instr.field 55 (.agg #[a0, a1, b0, b1, f0, f1]) 2).run Tryz.prog w = .ok (.agg #[f0, f1]) w := by kernel_rfl
end Go.Proofs.YtglgdbnhnchabaaGreatDoor

/-
  impl's RoomFree.
-/
set_option maxRecDepth 100000
namespace Go.Proofs.YtglgdbnhnchabaaGreatDoor
open Go.ChangeShapes Go.WideShapes Go.ChangeAt Go.RowKit Go.Proofs.Palim

open Go.Shelf
attribute [local go_sem] Oper.semAt_some

theorem upto2_free {c : CoreM} {n : Int} {a0 a1 b0 b1 f0 f1 : Nat} (h : SplitR c n a0 a1 b0 b1 f0 f1) : upto2 f0 f1 2 = freeL c n := by
  rw [← freeL_list, ← bits_list h.f]
  rfl
theorem keepB_of {N : Nat} {W W' : World} (h : Below N W W') : KeepB N (fun _ => False) W W' := ⟨h.size, fun b hb _ => h.block b hb⟩
theorem field2F (a0 a1 b0 b1 f0 f1 : Value) (w : World) : (Instr.field 55 (.agg #[a0, a1, b0, b1, f0, f1]) 2).run Tryz.prog w = .ok (.agg #[f0, f1]) w := by kernel_rfl

set_option maxHeartbeats 4000000 in
theorem implFree_any (vs vd vp vi : Value) (c : CoreM) (n : Int) (w : World) (h : CoreR w vs vd vp vi c) (hs : CoreShort c) (hn0 : -9223372036854775808 ≤ n) (hT : HasBru w) :
    Calls Tryz.prog 8 #[cv c vs vd vp vi, .int .i64 n] w fun e w' => ∃ v, e = .returned v ∧ w'.ownsRow w.heap.size 3 1 v (freeL c n).length (ics (natsI (freeL c n))) ∧ Below w.heap.size w w' := by
  obtain ⟨i0, hi, hz0, hz1, hz2⟩ := info_parts infoInt
  have HS := Lib.hid hs
  have HT := Lib.hid hT
  obtain ⟨A0, k0, A1, k1, A2, k2, A3, k3, rfl, rfl, rfl, rfl⟩ := h.forms
  have HRD := Lib.hid h
  have hb0 := Below.new1 (w := w) (.cells #[.int .i64 c.txg, .slice A0 c.sets.length k0, .slice A1 c.ddt.length k1, .slice A2 c.parts.length k2, .bool c.dirty, .slice A3 c.safe.length k3, .int .i64 c.logn] 34)
  have hb1 := Below.new (w := w.alloc (.cells #[.int .i64 c.txg, .slice A0 c.sets.length k0, .slice A1 c.ddt.length k1, .slice A2 c.parts.length k2, .bool c.dirty, .slice A3 c.safe.length k3, .int .i64 c.logn] 34)) (.cells #[.slice none 0 0] 25)
  have B := Lib.hid (hb0.trans (hb1.mono hb0.size))
  have XC := Lib.hid ((kbox_new h 34).box.below hb1 (by simp))
  have XF := Lib.hid (show Go.Boxed _ (w.heap.size + 1) 25 (.slice none 0 0) from by have := Go.Boxed.new (w.alloc (.cells #[.int .i64 c.txg, .slice A0 c.sets.length k0, .slice A1 c.ddt.length k1, .slice A2 c.parts.length k2, .bool c.dirty, .slice A3 c.safe.length k3, .int .i64 c.logn] 34)) 25 (.slice none 0 0); rwa [World.size_alloc] at this)
  clear h hs hb0 hb1 hT
  refine (callsIn_wide (n := 9)).1 ?_
  refine callsIn_of_wp_marks Tryz.func8 rfl trivial ?_ rfl
  simp only [Tryz.ntmps8, List.size_toArray, List.length_cons, List.length_nil, Nat.reduceAdd, Nat.reduceSub, Array.replicate_succ, Array.replicate_zero, List.push_toArray, List.append_toArray, List.nil_append, List.cons_append]
  gi_wp2_with fail
  generalize (w.alloc (.cells #[.int .i64 c.txg, .slice A0 c.sets.length k0, .slice A1 c.ddt.length k1, .slice A2 c.parts.length k2, .bool c.dirty, .slice A3 c.safe.length k3, .int .i64 c.logn] 34)).alloc (.cells #[.slice none 0 0] 25) = w1 at B XC XF ⊢
  refine ⟨trivial, (callsIn_wide.2 (roomOf_is _ _ _ _ c n _ (HRD.out.below B.out) HS.out hn0)).mono ?_⟩
  rintro e w2 ⟨a0, a1, b0, b1, f0, f1, rfl, hsp, hb⟩
  have HUP := Lib.hid (upto2_free hsp)
  have hf0 := hsp.f.l0
  have hf1 := hsp.f.l1
  have hf2 := field2F (.int .u64 (a0 : Int)) (.int .u64 (a1 : Int)) (.int .u64 (b0 : Int)) (.int .u64 (b1 : Int)) (.int .u64 (f0 : Int)) (.int .u64 (f1 : Int))
  have XF2 := Lib.hid (show Go.Boxed w2 (w.heap.size + 1) 25 (.slice none 0 0) from (hb.block _ XF.out.lt).trans XF.out)
  have B2 := Lib.hid (B.out.trans (hb.mono B.out.size))
  clear hb hsp B XF XC
  gi_wp2_with fail
  refine ⟨trivial, (all_in _ f0 f1 _).mono ?_⟩
  rintro e w3 ⟨rfl, rfl⟩
  have hn3 := Below.new (w := w2) (.cells #[.int .u64 (f0 : Int), .int .u64 (f1 : Int)] 53)
  have XB := Lib.hid (show Box _ w2.heap.size [.int .u64 (f0 : Int), .int .u64 (f1 : Int)] from box_new w2 #[.int .u64 (f0 : Int), .int .u64 (f1 : Int)] 53)
  have XF3 := Lib.hid (show Go.Boxed _ (w.heap.size + 1) 25 (.slice none 0 0) from (hn3.block _ XF2.out.lt).trans XF2.out)
  have B3 := Lib.hid (B2.out.trans (hn3.mono B2.out.size))
  clear hn3 B2 XF2
  gi_wp2_with fail
  obtain ⟨G2, HG2⟩ : ∃ G2, w2.heap.size = G2 := ⟨_, rfl⟩
  obtain ⟨W0, hW0⟩ : ∃ W0, w2.alloc (.cells #[.int .u64 (f0 : Int), .int .u64 (f1 : Int)] 53) = W0 := ⟨_, rfl⟩
  rw [hW0] at XB XF3 B3 ⊢
  rw [HG2] at XB ⊢
  clear hW0 HG2 hf2
  have HLN := Lib.hid (show (upto2 f0 f1 2).length ≤ 128 from by rw [HUP.out]; exact freeL_len c n)
  have hle0 := B3.out.size
  refine wpIn_rangeFunc_ownF rfl (by omega) (gf := 55) (lb := #[.pointer (some ⟨G2, 0, none⟩)]) rfl trivial (enters_of Tryz.func55 (by kernel_rfl) rfl)
    (all_stops _ (by omega) G2 w.heap.size (fun _ => False) f0 f1 hf0 hf1 W0 XB.out (HT.out.below B3.out HT.out.lt) HT.out.lt (fun h => h)) KeepB.trans (keepB_b hle0) (Below.refl _ _) (fun _ => rfl)
    (fun pre W => (∃ v, Go.Boxed W (w.heap.size + 1) 25 v ∧ W.ownsRow w.heap.size 3 1 v pre.length (ics (natsI pre)) ∧ True) ∧ Below w.heap.size w W)
    (fun _ _ _ => False)
    (OwnFrom.and (Own.from (holdsRow_own w.heap.size (w.heap.size + 1) 25 3 1 (fun pre : List Nat => pre.length) (fun pre => ics (natsI pre)) (fun _ _ => True)) _) (ownFrom_below (Nat.le_refl _) hle0))
    (fun _ _ _ _ _ hs _ _ => hs)
    ⟨⟨_, XF3.out, ⟨rfl, .inl ⟨rfl, rfl⟩⟩, trivial⟩, B3.out⟩
    (fun x => { tmps := #[cv c (.slice A0 c.sets.length k0) (.slice A1 c.ddt.length k1) (.slice A2 c.parts.length k2) (.slice A3 c.safe.length k3), .int .i64 n, .pointer (some ⟨w.heap.size, 0, none⟩), undef, .slice none 0 0, .pointer (some ⟨w.heap.size + 1, 0, none⟩), .int .i64 (x : Int), .agg #[.int .i64 c.txg, .slice A0 c.sets.length k0, .slice A1 c.ddt.length k1, .slice A2 c.parts.length k2, .bool c.dirty, .slice A3 c.safe.length k3, .int .i64 c.logn], .int .i64 n, .agg #[.int .u64 (a0 : Int), .int .u64 (a1 : Int), .int .u64 (b0 : Int), .int .u64 (b1 : Int), .int .u64 (f0 : Int), .int .u64 (f1 : Int)], .agg #[.int .u64 (f0 : Int), .int .u64 (f1 : Int)], .func (.func 55) #[] #[.pointer (some ⟨G2, 0, none⟩)], .int .i64 (x : Int), undef, undef, undef, undef, undef], defers := [] })
    ?assign ?body ?done ?stop
  case assign =>
    intro l x W K hK
    simp only [encN]
    gi_wp2
    exact hK
  case body =>
    rintro l pre x W ⟨⟨v, hv, hrow, -⟩, hB⟩ hlt
    have hn128 := HLN.out
    have hc := hv.cell
    have hbs := hB.size
    gi_wp2_with (first
      | (gi_at_builtin; refine wpListIn_append_own _ rfl _ _ 25 rfl w.heap.size 3 i0 (.int .i64 0) 1 8 Tryz.underlying25 hi hz0 hz1 hz2 rfl (by decide) _ _ _ rfl (hrow.alloc _) ⟨W.heap.size, 0, none⟩ 1 1 [.int .i64 (x : Int)] rfl rfl (cell_one_new _ _ _) (by simp [Value.oneCell']) (by unfold maxLen; omega) (by omega) (by simp; omega) ?_; intro v' w4 hown' hgrow _; obtain ⟨g', cap', rfl⟩ := ownsRow_succ hown'; obtain ⟨hv1, hv2, hr2, hk2, hb2⟩ := Go.Boxed.appended hv (by decide) hrow hB.size (by omega) hown' hgrow; have hc1 := Go.Boxed.cell hv1; have hfz1 := Go.Boxed.frozen hv1)
      | gi_in)
    refine ⟨hk2, keepB_of hb2, ⟨⟨_, hv2, ?_, trivial⟩, hB.trans hb2⟩⟩
    rw [natsI_snoc, ics_snoc, List.length_append]
    exact hr2
  case done =>
    rintro D ys W hD rfl ⟨⟨v, hv, hrow, -⟩, hB⟩ hKD
    have hc := hv.cell
    rw [HUP.out] at hrow
    gi_wp2
    refine leaves_two hKD (v := v) (by simp [results, Tryz.results8, go_sem]) ?_
    exact ⟨_, rfl, ownsRow_putObj hrow _ hKD rfl, hB.trans (belowK_b (w := w) (Nat.le_refl _) W D _ _ (by omega) hKD rfl rfl)⟩
  case stop =>
    rintro D c pre W _ _ h _
    exact h.elim
end Go.Proofs.YtglgdbnhnchabaaGreatDoor
