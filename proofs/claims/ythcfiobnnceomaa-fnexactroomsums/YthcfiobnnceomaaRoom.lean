/-
  Texts joined into one.
-/
import Derived.WalkKit
import Derived.Test.YthcfiobnnceomaaBase
import Derived.Lib.Hide
import Derived.ProofKit
import Derived.WalkSpells
import Derived.WalkSmall
import Derived.Test.YthcfiobnnceomaaCoreD
import Derived.Test.YthcfiobnnceomaaDdtCnt
import Derived.Test.YthcfiobnnceomaaSCok
import Derived.Test.YthcfiobnnceomaaApp
import Derived.Test.YthcfiobnnceomaaIntS
import Derived.Deep.RegionHeld3
import Derived.Deep.CutRange
import Derived.Test.YthcfiobnnceomaaKBox
import Derived.Test.YthcfiobnnceomaaICok

/-
  Counting the bits of a word, as math/bits counts them: the mathematics, of no program.
-/
set_option maxRecDepth 100000
namespace Go.Proofs.Palim
open Go

/-- How many of the first n bits are set. -/
def ones (n x : Nat) : Nat := (List.range n).countP (fun i => x.testBit i)
theorem ones_add (a b x : Nat) : ones (a + b) x = ones a x + ones b (x / 2 ^ a) := by
  unfold ones
  rw [List.range_add, List.countP_append, List.countP_map]
  congr 1
  refine List.countP_congr fun i _ => ?_
  simp [Function.comp, Nat.testBit_div_two_pow, Nat.add_comm]
theorem ones_mod (n x : Nat) : ones n (x % 2 ^ n) = ones n x := by
  unfold ones
  refine List.countP_congr fun i hi => ?_
  have := List.mem_range.1 hi
  simp [Nat.testBit_mod_two_pow, this]
theorem land_split (a c b d : Nat) (hb : b < 256) (hd : d < 256) : (a * 256 + b) &&& (c * 256 + d) = (a &&& c) * 256 + (b &&& d) := by
  have hbd : b &&& d < 2 ^ 8 := Nat.lt_of_le_of_lt Nat.and_le_left (by omega)
  refine Nat.eq_of_testBit_eq fun j => ?_
  rw [Nat.testBit_and, show a * 256 + b = 2 ^ 8 * a + b by omega, show c * 256 + d = 2 ^ 8 * c + d by omega, show (a &&& c) * 256 + (b &&& d) = 2 ^ 8 * (a &&& c) + (b &&& d) by omega,
    Nat.testBit_two_pow_mul_add _ (by omega), Nat.testBit_two_pow_mul_add _ (by omega), Nat.testBit_two_pow_mul_add _ hbd]
  split <;> simp [Nat.testBit_and]
/-- A byte n times. -/
def mk : Nat → Nat → Nat
  | 0, _ => 0
  | n + 1, d => mk n d * 256 + d
def s1 (n x : Nat) : Nat := ((x / 2) &&& mk n 85) + (x &&& mk n 85)
def s2 (n x : Nat) : Nat := ((x / 4) &&& mk n 51) + (x &&& mk n 51)
def s3 (n x : Nat) : Nat := (x / 16 + x) &&& mk n 15
def t1 (b : Nat) : Nat := ((b / 2) &&& 85) + (b &&& 85)
def t2 (b : Nat) : Nat := ((b / 4) &&& 51) + (b &&& 51)
def t3 (b : Nat) : Nat := b / 16 + b % 16
theorem low1 : ∀ c < 2, ∀ b < 256, (c * 128 + b / 2) &&& 85 = (b / 2) &&& 85 := by decide +kernel
theorem low2 : ∀ c < 4, ∀ b < 256, (c * 64 + b / 4) &&& 51 = (b / 4) &&& 51 := by decide +kernel
theorem low3 : ∀ c < 5, ∀ h < 5, ∀ l < 5, (c * 16 + h + (h * 16 + l)) &&& 15 = h + l := by decide +kernel
theorem t1_lt : ∀ b < 256, t1 b < 256 := by decide +kernel
theorem t2_lt : ∀ b < 256, t2 (t1 b) < 256 ∧ t2 (t1 b) / 16 < 5 ∧ t2 (t1 b) % 16 < 5 := by decide +kernel
theorem t3_ones : ∀ b < 256, t3 (t2 (t1 b)) = ones 8 b := by decide +kernel
theorem ones8_le : ∀ b < 256, ones 8 b ≤ 8 := by decide +kernel
theorem s1_step (n a b : Nat) (hb : b < 256) : s1 (n + 1) (a * 256 + b) = s1 n a * 256 + t1 b := by
  unfold s1 t1
  have e : (a * 256 + b) / 2 = (a / 2) * 256 + (a % 2 * 128 + b / 2) := by omega
  rw [e, mk, land_split _ _ _ _ (by omega) (by omega), land_split _ _ _ _ hb (by omega), low1 _ (by omega) _ hb]
  omega
theorem s2_step (n a b : Nat) (hb : b < 256) : s2 (n + 1) (a * 256 + b) = s2 n a * 256 + t2 b := by
  unfold s2 t2
  have e : (a * 256 + b) / 4 = (a / 4) * 256 + (a % 4 * 64 + b / 4) := by omega
  rw [e, mk, land_split _ _ _ _ (by omega) (by omega), land_split _ _ _ _ hb (by omega), low2 _ (by omega) _ hb]
  omega
theorem s3_step (n a b : Nat) (ha : a % 16 < 5) (h1 : b / 16 < 5) (h2 : b % 16 < 5) : s3 (n + 1) (a * 256 + b) = s3 n a * 256 + t3 b := by
  unfold s3 t3
  have e : (a * 256 + b) / 16 + (a * 256 + b) = (a / 16 + a) * 256 + (a % 16 * 16 + b / 16 + (b / 16 * 16 + b % 16)) := by omega
  rw [e, mk, land_split _ _ _ _ (by omega) (by omega), low3 _ ha _ h1 _ h2]
theorem s12_low (n a : Nat) : s2 n (s1 n a) % 16 < 5 := by
  cases n with
  | zero => simp [s2, s1, mk]
  | succ n =>
    have e : a = a / 256 * 256 + a % 256 := by omega
    have hb : a % 256 < 256 := Nat.mod_lt _ (by omega)
    rw [e, s1_step n _ _ hb, s2_step n _ _ (t1_lt _ hb)]
    have := (t2_lt _ hb).2.2
    omega
/-- The bits of the bytes, a byte each. -/
def packed : Nat → Nat → Nat
  | 0, _ => 0
  | n + 1, x => packed n (x / 256) * 256 + ones 8 (x % 256)
theorem swar (n : Nat) : ∀ x, s3 n (s2 n (s1 n x)) = packed n x := by
  induction n with
  | zero => intro x; simp [s1, s2, s3, mk, packed]
  | succ n ih =>
    intro x
    have e : x = x / 256 * 256 + x % 256 := by omega
    have hb : x % 256 < 256 := Nat.mod_lt _ (by omega)
    have h := t2_lt _ hb
    rw [e, s1_step n _ _ hb, s2_step n _ _ (t1_lt _ hb), s3_step n _ _ (s12_low n _) h.2.1 h.2.2, ih, t3_ones _ hb, packed]
    rw [show (x / 256 * 256 + x % 256) / 256 = x / 256 by omega, show (x / 256 * 256 + x % 256) % 256 = x % 256 by omega]
theorem hi (a b m d k : Nat) (hk : m = d * k) (hb : b < d) : (a * m + b) / d = a * k := by
  subst hk
  rw [show a * (d * k) + b = b + d * (a * k) by rw [Nat.add_comm, Nat.mul_left_comm], Nat.add_mul_div_left _ _ (by omega), Nat.div_eq_of_lt hb, Nat.zero_add]
theorem fold8 (p0 p1 p2 p3 p4 p5 p6 p7 x x1 x2 x3 : Nat) (h0 : p0 ≤ 8) (h1 : p1 ≤ 8) (h2 : p2 ≤ 8) (h3 : p3 ≤ 8) (h4 : p4 ≤ 8) (h5 : p5 ≤ 8) (h6 : p6 ≤ 8) (h7 : p7 ≤ 8)
    (hx : x = (((((((0 * 256 + p7) * 256 + p6) * 256 + p5) * 256 + p4) * 256 + p3) * 256 + p2) * 256 + p1) * 256 + p0)
    (e1 : x1 = x + x / 256) (e2 : x2 = x1 + x1 / 65536) (e3 : x3 = x2 + x2 / 4294967296) : x3 % 128 = p0 + p1 + p2 + p3 + p4 + p5 + p6 + p7 ∧ x3 < 18446744073709551616 := by
  obtain ⟨q, hq⟩ : ∃ q, q = ((((((0 * 256 + p7) * 256 + p6) * 256 + p5) * 256 + p4) * 256 + p3) * 256 + p2) * 256 + p1 := ⟨_, rfl⟩
  have a1 : x / 256 = q := by rw [← hq] at hx; omega
  rw [a1] at e1
  obtain ⟨r, hr⟩ : ∃ r, r = ((((0 * 256 + p7) * 256 + (p7 + p6)) * 256 + (p6 + p5)) * 256 + (p5 + p4)) * 256 + (p4 + p3) := ⟨_, rfl⟩
  have f1 : x1 = (r * 256 + (p3 + p2)) * 65536 + ((p2 + p1) * 256 + (p1 + p0)) := by omega
  have a2 : x1 / 65536 = r * 256 + (p3 + p2) := by clear hx hq e1 hr e2 e3 a1; omega
  rw [a2] at e2
  obtain ⟨u, hu⟩ : ∃ u, u = (((0 * 256 + p7) * 256 + (p7 + p6)) * 256 + (p7 + p6 + p5)) * 256 + (p7 + p6 + p5 + p4) := ⟨_, rfl⟩
  have f2 : x2 = u * 4294967296 + ((((p6 + p5 + p4 + p3) * 256 + (p5 + p4 + p3 + p2)) * 256 + (p4 + p3 + p2 + p1)) * 256 + (p3 + p2 + p1 + p0)) := by clear hx hq e1 a1 a2 e3; omega
  have a3 : x2 / 4294967296 = u := by clear hx hq e1 hr e2 e3 a1 a2 f1 hu; omega
  rw [a3] at e3
  clear hx hq e1 hr e2 a1 a2 a3 f1
  have hub : u < 600000000 := by omega
  constructor
  · omega
  · omega
/-- What math/bits.OnesCount64 computes. -/
theorem onesCount (x x1 x2 x3 : Nat) (hx : x < 2 ^ 64) (e1 : x1 = s3 8 (s2 8 (s1 8 x)) + s3 8 (s2 8 (s1 8 x)) / 256) (e2 : x2 = x1 + x1 / 65536) (e3 : x3 = x2 + x2 / 4294967296) : x3 % 128 = ones 64 x ∧ x3 < 18446744073709551616 := by
  rw [swar] at e1
  have hb : ∀ y, ones 8 (y % 256) ≤ 8 := fun y => ones8_le _ (Nat.mod_lt _ (by omega))
  have hp : packed 8 x = (((((((0 * 256 + ones 8 (x / 256 / 256 / 256 / 256 / 256 / 256 / 256 % 256)) * 256 + ones 8 (x / 256 / 256 / 256 / 256 / 256 / 256 % 256)) * 256 + ones 8 (x / 256 / 256 / 256 / 256 / 256 % 256)) * 256 + ones 8 (x / 256 / 256 / 256 / 256 % 256)) * 256 + ones 8 (x / 256 / 256 / 256 % 256)) * 256 + ones 8 (x / 256 / 256 % 256)) * 256 + ones 8 (x / 256 % 256)) * 256 + ones 8 (x % 256) := rfl
  have h8 : ∀ y, ones 8 (y % 256) = ones 8 y := fun y => ones_mod 8 y
  have hs : ones 64 x = ones 8 (x % 256) + ones 8 (x / 256 % 256) + ones 8 (x / 256 / 256 % 256) + ones 8 (x / 256 / 256 / 256 % 256) + ones 8 (x / 256 / 256 / 256 / 256 % 256) + ones 8 (x / 256 / 256 / 256 / 256 / 256 % 256) + ones 8 (x / 256 / 256 / 256 / 256 / 256 / 256 % 256) + ones 8 (x / 256 / 256 / 256 / 256 / 256 / 256 / 256 % 256) := by
    have q : ∀ n y, ones (8 + n) y = ones 8 (y % 256) + ones n (y / 256) := fun n y => by rw [ones_add, h8]
    rw [show (64 : Nat) = 8 + 56 by rfl, q, show (56 : Nat) = 8 + 48 by rfl, q, show (48 : Nat) = 8 + 40 by rfl, q, show (40 : Nat) = 8 + 32 by rfl, q, show (32 : Nat) = 8 + 24 by rfl, q, show (24 : Nat) = 8 + 16 by rfl, q, show (16 : Nat) = 8 + 8 by rfl, q, ← h8 (x / 256 / 256 / 256 / 256 / 256 / 256 / 256)]
    omega
  have := fold8 _ _ _ _ _ _ _ _ _ x1 x2 x3 (hb _) (hb _) (hb _) (hb _) (hb _) (hb _) (hb _) (hb _) hp e1 e2 e3
  rw [hs]
  exact this
end Go.Proofs.Palim

/-
  math/bits.OnesCount64.
-/
set_option maxRecDepth 100000
namespace Go.Proofs.Palim
open Go
theorem u64_bits : IntKind.u64.bits = 64 := rfl
theorem wrap_u64 (n : Nat) (h : n < 2 ^ 64) : IntKind.wrap .u64 (n : Int) = (n : Int) := by
  rw [IntKind.wrap_u64]
  omega
theorem bits_and_nat (a b : Nat) (ha : a < 2 ^ 64) (hb : b < 2 ^ 64) : bits .and .u64 (a : Int) (b : Int) = ((a &&& b : Nat) : Int) := by
  have h1 : (BitVec.ofInt 64 (a : Int) &&& BitVec.ofInt 64 (b : Int)).toNat = a &&& b := by
    rw [BitVec.toNat_and, BitVec.ofInt_natCast, BitVec.ofInt_natCast, BitVec.toNat_ofNat, BitVec.toNat_ofNat, Nat.mod_eq_of_lt ha, Nat.mod_eq_of_lt hb]
  show IntKind.wrap .u64 (((BitVec.ofInt 64 (a : Int) &&& BitVec.ofInt 64 (b : Int)).toNat : Nat) : Int) = _
  rw [h1]
  exact wrap_u64 _ (Nat.lt_of_le_of_lt Nat.and_le_left ha)
theorem bits_or_nat (a b : Nat) (ha : a < 2 ^ 64) (hb : b < 2 ^ 64) : bits .or .u64 (a : Int) (b : Int) = ((a ||| b : Nat) : Int) := by
  have h1 : (BitVec.ofInt 64 (a : Int) ||| BitVec.ofInt 64 (b : Int)).toNat = a ||| b := by
    rw [BitVec.toNat_or, BitVec.ofInt_natCast, BitVec.ofInt_natCast, BitVec.toNat_ofNat, BitVec.toNat_ofNat, Nat.mod_eq_of_lt ha, Nat.mod_eq_of_lt hb]
  show IntKind.wrap .u64 (((BitVec.ofInt 64 (a : Int) ||| BitVec.ofInt 64 (b : Int)).toNat : Nat) : Int) = _
  rw [h1]
  exact wrap_u64 _ (Nat.or_lt_two_pow ha hb)
/-- a without the bits of b. -/
def nandB (a b : Nat) : Nat := (BitVec.ofNat 64 a &&& ~~~ BitVec.ofNat 64 b).toNat
theorem bits_andNot_nat (a b : Nat) : bits .andNot .u64 (a : Int) (b : Int) = ((nandB a b : Nat) : Int) := by
  show IntKind.wrap .u64 (((BitVec.ofInt 64 (a : Int) &&& ~~~ BitVec.ofInt 64 (b : Int)).toNat : Nat) : Int) = _
  rw [BitVec.ofInt_natCast, BitVec.ofInt_natCast]
  exact wrap_u64 _ (BitVec.isLt _)
theorem nandB_lt (a b : Nat) : nandB a b < 2 ^ 64 := BitVec.isLt _
theorem nandB_bit (a b i : Nat) (hi : i < 64) : (nandB a b).testBit i = (a.testBit i && !b.testBit i) := by
  unfold nandB
  rw [BitVec.testBit_toNat, BitVec.getLsbD_and, BitVec.getLsbD_not, BitVec.getLsbD_ofNat, BitVec.getLsbD_ofNat]
  simp [hi]
theorem bits_and_i64 (a : Nat) (ha : a < 2 ^ 63) : bits .and .i64 (a : Int) 127 = ((a % 128 : Nat) : Int) := by
  have h1 : (BitVec.ofInt 64 (a : Int) &&& BitVec.ofInt 64 (127 : Int)).toNat = a % 128 := by
    rw [BitVec.toNat_and, BitVec.ofInt_natCast, BitVec.toNat_ofNat, Nat.mod_eq_of_lt (by omega)]
    show a &&& 127 = a % 128
    exact Nat.and_two_pow_sub_one_eq_mod a 7
  show IntKind.wrap .i64 (((BitVec.ofInt 64 (a : Int) &&& BitVec.ofInt 64 (127 : Int)).toNat : Nat) : Int) = _
  rw [h1, IntKind.wrap_i64]
  omega
end Go.Proofs.Palim
namespace Go.Proofs.Ythcfiobnnceomaa
open Go.ChangeShapes Go.WideShapes Go.ChangeAt Go.RowKit Go.Proofs.Palim

theorem mk85 : mk 8 85 = 6148914691236517205 := rfl
theorem mk51 : mk 8 51 = 3689348814741910323 := rfl
theorem mk15 : mk 8 15 = 1085102592571150095 := rfl
theorem packed_lt (n : Nat) : ∀ x, packed (n + 1) x < 9 * 256 ^ n := by
  induction n with
  | zero =>
    intro x
    have h8 := ones8_le (x % 256) (Nat.mod_lt _ (by omega))
    simp only [packed, Nat.pow_zero]
    omega
  | succ n ih =>
    intro x
    have h := ih (x / 256)
    have h8 := ones8_le (x % 256) (Nat.mod_lt _ (by omega))
    rw [packed, Nat.pow_succ]
    omega

set_option maxHeartbeats 2000000 in
theorem ones_any (x : Nat) (hx : x < 2 ^ 64) (w : World) :
    Calls Try.prog 48 #[.int .u64 (x : Int)] w fun e w' => e = .returned (.int .i64 (ones 64 x : Nat)) ∧ w' = w := by
  obtain ⟨R, HR⟩ : ∃ R, Hid (ones 64 x = R) := ⟨_, Lib.hid rfl⟩
  rw [HR.out]
  obtain ⟨x2, H1⟩ : ∃ q, Hid (x / 2 = q) := ⟨_, Lib.hid rfl⟩
  obtain ⟨p1, HP1⟩ : ∃ q, Hid (x2 &&& 6148914691236517205 = q) := ⟨_, Lib.hid rfl⟩
  obtain ⟨q1, HQ1⟩ : ∃ q, Hid (x &&& 6148914691236517205 = q) := ⟨_, Lib.hid rfl⟩
  obtain ⟨y1, HY1⟩ : ∃ q, Hid (p1 + q1 = q) := ⟨_, Lib.hid rfl⟩
  obtain ⟨y14, H2⟩ : ∃ q, Hid (y1 / 4 = q) := ⟨_, Lib.hid rfl⟩
  obtain ⟨p2, HP2⟩ : ∃ q, Hid (y14 &&& 3689348814741910323 = q) := ⟨_, Lib.hid rfl⟩
  obtain ⟨q2, HQ2⟩ : ∃ q, Hid (y1 &&& 3689348814741910323 = q) := ⟨_, Lib.hid rfl⟩
  obtain ⟨y2, HY2⟩ : ∃ q, Hid (p2 + q2 = q) := ⟨_, Lib.hid rfl⟩
  obtain ⟨y216, H3⟩ : ∃ q, Hid (y2 / 16 = q) := ⟨_, Lib.hid rfl⟩
  obtain ⟨p3, HP3⟩ : ∃ q, Hid (y216 + y2 = q) := ⟨_, Lib.hid rfl⟩
  obtain ⟨y3, HY3⟩ : ∃ q, Hid (p3 &&& 1085102592571150095 = q) := ⟨_, Lib.hid rfl⟩
  obtain ⟨z1, H4⟩ : ∃ q, Hid (y3 / 256 = q) := ⟨_, Lib.hid rfl⟩
  obtain ⟨x1, HX1⟩ : ∃ q, Hid (y3 + z1 = q) := ⟨_, Lib.hid rfl⟩
  obtain ⟨z2, H5⟩ : ∃ q, Hid (x1 / 65536 = q) := ⟨_, Lib.hid rfl⟩
  obtain ⟨u2, HX2⟩ : ∃ q, Hid (x1 + z2 = q) := ⟨_, Lib.hid rfl⟩
  obtain ⟨z3, H6⟩ : ∃ q, Hid (u2 / 4294967296 = q) := ⟨_, Lib.hid rfl⟩
  obtain ⟨u3, HX3⟩ : ∃ q, Hid (u2 + z3 = q) := ⟨_, Lib.hid rfl⟩
  have hy1 : s1 8 x = y1 := by unfold s1; rw [mk85, H1.out, HP1.out, HQ1.out, HY1.out]
  have hy2 : s2 8 (s1 8 x) = y2 := by rw [hy1]; unfold s2; rw [mk51, H2.out, HP2.out, HQ2.out, HY2.out]
  have hy3 : s3 8 (s2 8 (s1 8 x)) = y3 := by rw [hy2]; unfold s3; rw [mk15, H3.out, HP3.out, HY3.out]
  have hfin := onesCount x x1 u2 u3 hx (by rw [hy3, H4.out, HX1.out]) (by rw [H5.out, HX2.out]) (by rw [H6.out, HX3.out])
  have hRu : u3 % 128 = R := by rw [hfin.1, HR.out]
  have hp := packed_lt 7 x
  rw [← swar, hy3] at hp
  have b1 : p1 ≤ 6148914691236517205 := by rw [← HP1.out]; exact Nat.and_le_right
  have b2 : q1 ≤ 6148914691236517205 := by rw [← HQ1.out]; exact Nat.and_le_right
  have b3 : p2 ≤ 3689348814741910323 := by rw [← HP2.out]; exact Nat.and_le_right
  have b4 : q2 ≤ 3689348814741910323 := by rw [← HQ2.out]; exact Nat.and_le_right
  have c1 := H1.out
  have c2 := HY1.out
  have c3 := H2.out
  have c4 := HY2.out
  have c5 := H3.out
  have c6 := HP3.out
  have c7 := H4.out
  have c8 := HX1.out
  have c9 := H5.out
  have c10 := HX2.out
  have c11 := H6.out
  have c12 := HX3.out
  have e1 : (x : Int) / 2 = (x2 : Int) := by omega
  have e2 : bits .and .u64 (x2 : Int) 6148914691236517205 = (p1 : Int) := by rw [← HP1.out]; exact bits_and_nat x2 6148914691236517205 (by omega) (by omega)
  have e3 : bits .and .u64 (x : Int) 6148914691236517205 = (q1 : Int) := by rw [← HQ1.out]; exact bits_and_nat x 6148914691236517205 hx (by omega)
  have e4 : IntKind.wrap .u64 ((p1 : Int) + (q1 : Int)) = (y1 : Int) := by rw [← Int.natCast_add, c2]; exact wrap_u64 _ (by omega)
  have e5 : (y1 : Int) / 4 = (y14 : Int) := by omega
  have e6 : bits .and .u64 (y14 : Int) 3689348814741910323 = (p2 : Int) := by rw [← HP2.out]; exact bits_and_nat y14 3689348814741910323 (by omega) (by omega)
  have e7 : bits .and .u64 (y1 : Int) 3689348814741910323 = (q2 : Int) := by rw [← HQ2.out]; exact bits_and_nat y1 3689348814741910323 (by omega) (by omega)
  have e8 : IntKind.wrap .u64 ((p2 : Int) + (q2 : Int)) = (y2 : Int) := by rw [← Int.natCast_add, c4]; exact wrap_u64 _ (by omega)
  have e9 : (y2 : Int) / 16 = (y216 : Int) := by omega
  have e10 : IntKind.wrap .u64 ((y216 : Int) + (y2 : Int)) = (p3 : Int) := by rw [← Int.natCast_add, c6]; exact wrap_u64 _ (by omega)
  have e11 : bits .and .u64 (p3 : Int) 1085102592571150095 = (y3 : Int) := by rw [← HY3.out]; exact bits_and_nat p3 1085102592571150095 (by omega) (by omega)
  have e12 : (y3 : Int) / 256 = (z1 : Int) := by omega
  have e13 : IntKind.wrap .u64 ((y3 : Int) + (z1 : Int)) = (x1 : Int) := by rw [← Int.natCast_add, c8]; exact wrap_u64 _ (by omega)
  have e14 : (x1 : Int) / 65536 = (z2 : Int) := by omega
  have e15 : IntKind.wrap .u64 ((x1 : Int) + (z2 : Int)) = (u2 : Int) := by rw [← Int.natCast_add, c10]; exact wrap_u64 _ (by omega)
  have e16 : (u2 : Int) / 4294967296 = (z3 : Int) := by omega
  have e17 : IntKind.wrap .u64 ((u2 : Int) + (z3 : Int)) = (u3 : Int) := by rw [← Int.natCast_add, c12]; exact wrap_u64 _ (by omega)
  have hu63 : u3 < 2 ^ 63 := by omega
  have e18 : IntKind.wrap .i64 (u3 : Int) = (u3 : Int) := IntWalk.i64_in _ (by omega)
  have e19 : bits .and .i64 (u3 : Int) 127 = (R : Int) := by rw [bits_and_i64 u3 hu63, hRu]
  clear c1 c2 c3 c4 c5 c6 c7 c8 c9 c10 c11 c12 hy1 hy2 hy3 hfin hRu hp b1 b2 b3 b4 hu63
  go_enter Try.func48, Try.ntmps48
  go_wp2
  go_ret
  exact ⟨rfl, rfl⟩
end Go.Proofs.Ythcfiobnnceomaa

/-
  Sets of sectors as the bits of two words, and how many there are: the mathematics, of no program.
-/
set_option maxRecDepth 100000
namespace Go.Proofs.Palim
open Go

def bit2 (x0 x1 i : Nat) : Bool := if i < 64 then x0.testBit i else x1.testBit (i - 64)
/-- The two words hold the set P. -/
structure BitsR (x0 x1 : Nat) (P : Nat → Bool) : Prop where
  l0 : x0 < 2 ^ 64
  l1 : x1 < 2 ^ 64
  at_ : ∀ i, i < 128 → bit2 x0 x1 i = P i
theorem bits_zero : BitsR 0 0 (fun _ => false) := ⟨by omega, by omega, fun i _ => by simp [bit2]⟩
def addB (P : Nat → Bool) (a : Int) (i : Nat) : Bool := P i || decide (13 ≤ a ∧ a < 120 ∧ (i : Int) = a)
theorem addB_out {P : Nat → Bool} {a : Int} (h : ¬ (13 ≤ a ∧ a < 120)) : addB P a = P := by
  funext i
  unfold addB
  rw [decide_eq_false (fun c => h ⟨c.1, c.2.1⟩), Bool.or_false]
theorem bits_add0 {x0 x1 : Nat} {P : Nat → Bool} (h : BitsR x0 x1 P) {n : Nat} (h1 : 13 ≤ n) (h2 : n < 64) : BitsR (x0 ||| 2 ^ n) x1 (addB P n) := by
  refine ⟨Nat.or_lt_two_pow h.l0 (Nat.pow_lt_pow_right (by omega) h2), h.l1, fun i hi => ?_⟩
  have := h.at_ i hi
  unfold bit2 addB at *
  split
  · rename_i hi6
    rw [if_pos hi6] at this
    rw [Nat.testBit_or, this, Nat.testBit_two_pow]
    congr 1
    by_cases e : n = i
    · subst e; simp; omega
    · rw [decide_eq_false e, decide_eq_false (fun c => by omega)]
  · rename_i hi6
    rw [if_neg hi6] at this
    rw [this, decide_eq_false (fun c => by omega), Bool.or_false]
theorem bits_add1 {x0 x1 : Nat} {P : Nat → Bool} (h : BitsR x0 x1 P) {n : Nat} (h1 : 64 ≤ n) (h2 : n < 120) : BitsR x0 (x1 ||| 2 ^ (n - 64)) (addB P n) := by
  refine ⟨h.l0, Nat.or_lt_two_pow h.l1 (Nat.pow_lt_pow_right (by omega) (by omega)), fun i hi => ?_⟩
  have := h.at_ i hi
  unfold bit2 addB at *
  split
  · rename_i hi6
    rw [if_pos hi6] at this
    rw [this, decide_eq_false (fun c => by omega), Bool.or_false]
  · rename_i hi6
    rw [if_neg hi6] at this
    rw [Nat.testBit_or, this, Nat.testBit_two_pow]
    congr 1
    by_cases e : n = i
    · subst e; simp; omega
    · rw [decide_eq_false (by omega), decide_eq_false (fun c => by omega)]
theorem bits_and {x0 x1 y0 y1 : Nat} {P Q : Nat → Bool} (h : BitsR x0 x1 P) (k : BitsR y0 y1 Q) : BitsR (x0 &&& y0) (x1 &&& y1) (fun i => P i && Q i) := by
  refine ⟨Nat.lt_of_le_of_lt Nat.and_le_left h.l0, Nat.lt_of_le_of_lt Nat.and_le_left h.l1, fun i hi => ?_⟩
  have a := h.at_ i hi
  have b := k.at_ i hi
  unfold bit2 at *
  split <;> rename_i hi6
  · rw [if_pos hi6] at a b; rw [Nat.testBit_and, a, b]
  · rw [if_neg hi6] at a b; rw [Nat.testBit_and, a, b]
theorem bits_nand {x0 x1 y0 y1 : Nat} {P Q : Nat → Bool} (h : BitsR x0 x1 P) (k : BitsR y0 y1 Q) : BitsR (nandB x0 y0) (nandB x1 y1) (fun i => P i && !Q i) := by
  refine ⟨nandB_lt _ _, nandB_lt _ _, fun i hi => ?_⟩
  have a := h.at_ i hi
  have b := k.at_ i hi
  unfold bit2 at *
  split <;> rename_i hi6
  · rw [if_pos hi6] at a b; rw [nandB_bit _ _ _ hi6, a, b]
  · rw [if_neg hi6] at a b; rw [nandB_bit _ _ _ (by omega), a, b]
theorem bits_ext {x0 x1 : Nat} {P Q : Nat → Bool} (h : BitsR x0 x1 P) (e : ∀ i, i < 128 → P i = Q i) : BitsR x0 x1 Q := ⟨h.l0, h.l1, fun i hi => by rw [h.at_ i hi, e i hi]⟩
/-- How many of the first m sectors are in the set. -/
def cntB (P : Nat → Bool) (m : Nat) : Nat := (List.range m).countP P
theorem cntB_succ (P : Nat → Bool) (m : Nat) : cntB P (m + 1) = cntB P m + if P m then 1 else 0 := by
  unfold cntB
  rw [List.range_succ, List.countP_append, List.countP_cons]
  simp
theorem cntB_le (P : Nat → Bool) (m : Nat) : cntB P m ≤ m := by
  have := List.countP_le_length (p := P) (l := List.range m)
  rw [List.length_range] at this
  exact this
theorem cntB_ext {P Q : Nat → Bool} {m : Nat} (h : ∀ i, i < m → P i = Q i) : cntB P m = cntB Q m := by
  unfold cntB
  exact List.countP_congr fun i hi => by rw [h i (List.mem_range.1 hi)]
theorem cntB_zero {P : Nat → Bool} {m : Nat} (h : ∀ i, i < m → P i = false) : cntB P m = 0 := by
  unfold cntB
  rw [List.countP_eq_zero]
  intro i hi
  rw [h i (List.mem_range.1 hi)]
  simp
theorem cntB_more {P : Nat → Bool} {m k : Nat} (h : ∀ i, m ≤ i → P i = false) : cntB P (m + k) = cntB P m := by
  induction k with
  | zero => rfl
  | succ k ih => rw [← Nat.add_assoc, cntB_succ, ih, h (m + k) (by omega)]; rfl
theorem bits_count {x0 x1 : Nat} {P : Nat → Bool} (h : BitsR x0 x1 P) : ones 64 x0 + ones 64 x1 = cntB P 128 := by
  unfold ones cntB
  rw [show (128 : Nat) = 64 + 64 by rfl, List.range_add, List.countP_append, List.countP_map]
  congr 1
  · refine List.countP_congr fun i hi => ?_
    have hi := List.mem_range.1 hi
    have := h.at_ i (by omega)
    unfold bit2 at this
    rw [if_pos hi] at this
    rw [this]
  · refine List.countP_congr fun i hi => ?_
    have hi := List.mem_range.1 hi
    have := h.at_ (64 + i) (by omega)
    unfold bit2 at this
    rw [if_neg (by omega), Nat.add_sub_cancel_left] at this
    rw [this]
    rfl
end Go.Proofs.Palim

/-
  The sectors of a core: stored, safe, free.
-/
set_option maxRecDepth 100000
namespace Go.Proofs.Ythcfiobnnceomaa
open Go Go.Proofs.Palim

noncomputable def storedB (ls : List EntM) (i : Nat) : Bool := ls.any fun e => decide (13 ≤ e.at_ ∧ e.at_ < 120 ∧ (i : Int) = e.at_)
noncomputable def safeB (ls : List Int) (i : Nat) : Bool := ls.any fun a => decide (13 ≤ a ∧ a < 120 ∧ (i : Int) = a)
def thereB (n : Int) (i : Nat) : Bool := decide (13 ≤ i ∧ (i : Int) < n)
theorem stored_snoc {ls : List EntM} {k : Nat} (h : k < ls.length) : addB (storedB (ls.take k)) ls[k].at_ = storedB (ls.take (k + 1)) := by
  funext i
  unfold addB storedB
  rw [List.take_succ_eq_append_getElem h, List.any_append]
  simp
theorem safe_snoc {ls : List Int} {k : Nat} (h : k < ls.length) : addB (safeB (ls.take k)) ls[k] = safeB (ls.take (k + 1)) := by
  funext i
  unfold addB safeB
  rw [List.take_succ_eq_append_getElem h, List.any_append]
  simp
theorem there_snoc {m : Nat} (h1 : 13 ≤ m) (h2 : m < 120) : addB (thereB (m : Int)) (m : Int) = thereB ((m + 1 : Nat) : Int) := by
  funext i
  unfold addB thereB
  by_cases e : i = m
  · subst e
    rw [decide_eq_true (show 13 ≤ (i : Int) ∧ (i : Int) < 120 ∧ (i : Int) = (i : Int) from ⟨by omega, by omega, rfl⟩), Bool.or_true, decide_eq_true (by omega)]
  · rw [decide_eq_false (show ¬ (13 ≤ (m : Int) ∧ (m : Int) < 120 ∧ (i : Int) = (m : Int)) from fun c => e (by omega)), Bool.or_false]
    by_cases h : 13 ≤ i ∧ (i : Int) < (m : Int)
    · rw [decide_eq_true h, decide_eq_true (by omega)]
    · rw [decide_eq_false h, decide_eq_false (by omega)]
theorem there_low {n : Int} (h : n ≤ 13) : thereB n = fun _ => false := by
  funext i
  exact decide_eq_false (by omega)
/-- The three parts. -/
noncomputable def partS (c : CoreM) (n : Int) (i : Nat) : Bool := thereB n i && storedB c.ddt i
noncomputable def partO (c : CoreM) (n : Int) (i : Nat) : Bool := (thereB n i && safeB c.safe i) && !storedB c.ddt i
noncomputable def partF (c : CoreM) (n : Int) (i : Nat) : Bool := (thereB n i && !storedB c.ddt i) && !safeB c.safe i
/-- Whether the arguments are valid. -/
def RoomOk (c : CoreM) (n : Int) : Prop := CoreOkM c ∧ n ≤ 120
noncomputable instance (c : CoreM) (n : Int) : Decidable (RoomOk c n) := Classical.propDecidable _
/-- How many sectors are stored, safe, free. -/
noncomputable def sumS (c : CoreM) (n : Int) : Nat := if RoomOk c n then cntB (partS c n) 128 else 0
noncomputable def sumO (c : CoreM) (n : Int) : Nat := if RoomOk c n then cntB (partO c n) 128 else 0
noncomputable def sumF (c : CoreM) (n : Int) : Nat := if RoomOk c n then cntB (partF c n) 128 else 0
end Go.Proofs.Ythcfiobnnceomaa

/-
  The sectors of a core, counted one by one.
-/
set_option maxRecDepth 100000
namespace Go.Proofs.Ythcfiobnnceomaa
open Go Go.Proofs.Palim

theorem at_stored {ls : List EntM} {k : Nat} {r : Bool} {m : Nat} (hok : GoodE ls ls.length) (h : AtP ls (m : Int) k) (hr : r = true ↔ ThereP ls (m : Int) k) (h1 : 13 ≤ m) (h2 : m < 120) : storedB ls m = r := by
  unfold storedB
  by_cases ht : ThereP ls (m : Int) k
  · rw [hr.2 ht]
    obtain ⟨hk, e⟩ := ht
    exact List.any_eq_true.2 ⟨_, List.getElem_mem hk, decide_eq_true ⟨by omega, by omega, e.symm⟩⟩
  · have hn := at_none hok h ht
    have hf : r = false := by
      cases r with
      | false => rfl
      | true => exact absurd (hr.1 rfl) ht
    rw [hf, List.any_eq_false]
    intro x hx hd
    obtain ⟨i, hi, rfl⟩ := List.mem_iff_getElem.1 hx
    exact hn i hi (of_decide_eq_true hd).2.2.symm
theorem mem_safe {ls : List Int} {m : Nat} (h1 : 13 ≤ m) (h2 : m < 120) : decide ((m : Int) ∈ ls) = safeB ls m := by
  unfold safeB
  by_cases h : (m : Int) ∈ ls
  · rw [decide_eq_true h]
    exact (List.any_eq_true.2 ⟨_, h, decide_eq_true ⟨by omega, by omega, rfl⟩⟩).symm
  · rw [decide_eq_false h]
    symm
    rw [List.any_eq_false]
    intro x hx hd
    have := (of_decide_eq_true hd).2.2
    exact h (this ▸ hx)
/-- Outside of what there is, nothing. -/
def ThereOf (n : Int) (P : Nat → Bool) : Prop := ∀ i, thereB n i = false → P i = false
theorem partS_there (c : CoreM) (n : Int) : ThereOf n (partS c n) := fun i h => by unfold partS; rw [h]; rfl
theorem partO_there (c : CoreM) (n : Int) : ThereOf n (partO c n) := fun i h => by unfold partO; rw [h]; rfl
theorem partF_there (c : CoreM) (n : Int) : ThereOf n (partF c n) := fun i h => by unfold partF; rw [h]; rfl
theorem cnt_start {n : Int} {P : Nat → Bool} (h : ThereOf n P) : cntB P 13 = 0 := cntB_zero fun i hi => h i (decide_eq_false (by omega))
theorem cnt_last {n : Int} {P : Nat → Bool} (h : ThereOf n P) {m : Nat} (h1 : ¬ (m : Int) < n) (h2 : m ≤ 120) : cntB P m = cntB P 128 := by
  have e : 128 = m + (128 - m) := by omega
  rw [e, cntB_more fun i hi => h i (decide_eq_false (by omega))]
theorem part_at {c : CoreM} {n : Int} {m : Nat} (h1 : 13 ≤ m) (h2 : (m : Int) < n) {st sf : Bool} (hs : storedB c.ddt m = st) (hf : safeB c.safe m = sf) :
    cntB (partS c n) (m + 1) = cntB (partS c n) m + (if st then 1 else 0) ∧ cntB (partO c n) (m + 1) = cntB (partO c n) m + (if sf && !st then 1 else 0) ∧ cntB (partF c n) (m + 1) = cntB (partF c n) m + (if !st && !sf then 1 else 0) := by
  have ht : thereB n m = true := decide_eq_true ⟨h1, h2⟩
  refine ⟨?_, ?_, ?_⟩
  · rw [cntB_succ]; unfold partS; rw [ht, hs]; simp
  · rw [cntB_succ]; unfold partO; rw [ht, hs, hf]; simp
  · rw [cntB_succ]; unfold partF; rw [ht, hs, hf]; simp
/-- Whether the room is enough. -/
def MayM (c : CoreM) (n : Int) : Prop := RoomOk c n ∧ 16 < sumF c n ∧ 32 ≤ n - 13 - (c.ddt.length : Int) - 1 ∧ c.ddt.length < 48
noncomputable instance (c : CoreM) (n : Int) : Decidable (MayM c n) := Classical.propDecidable _
theorem sums_bad {c : CoreM} {n : Int} (h : ¬ RoomOk c n) : sumS c n = 0 ∧ sumO c n = 0 ∧ sumF c n = 0 := by
  unfold sumS sumO sumF
  exact ⟨if_neg h, if_neg h, if_neg h⟩
theorem sums_good {c : CoreM} {n : Int} (h : RoomOk c n) : sumS c n = cntB (partS c n) 128 ∧ sumO c n = cntB (partO c n) 128 ∧ sumF c n = cntB (partF c n) 128 := by
  unfold sumS sumO sumF
  exact ⟨if_pos h, if_pos h, if_pos h⟩
theorem sums_le (c : CoreM) (n : Int) : sumS c n ≤ 128 ∧ sumO c n ≤ 128 ∧ sumF c n ≤ 128 := by
  by_cases h : RoomOk c n
  · obtain ⟨h1, h2, h3⟩ := sums_good h
    rw [h1, h2, h3]
    exact ⟨cntB_le _ _, cntB_le _ _, cntB_le _ _⟩
  · obtain ⟨h1, h2, h3⟩ := sums_bad h
    omega
theorem free_pos {c : CoreM} {n : Int} (h : 0 < sumF c n) : 13 < n := by
  by_cases hr : RoomOk c n
  · rw [(sums_good hr).2.2] at h
    refine Int.not_le.1 fun hle => ?_
    rw [cntB_zero fun i _ => partF_there c n i (decide_eq_false (by omega))] at h
    exact Nat.lt_irrefl _ h
  · rw [(sums_bad hr).2.2] at h
    exact absurd h (Nat.lt_irrefl _)
theorem cnt_ok (c : CoreM) (n : Int) (P : Nat → Bool) : cntB (fun i => decide (RoomOk c n) && P i) 128 = if RoomOk c n then cntB P 128 else 0 := by
  by_cases h : RoomOk c n
  · rw [if_pos h]
    exact cntB_ext fun i _ => by rw [decide_eq_true h, Bool.true_and]
  · rw [if_neg h]
    exact cntB_zero fun i _ => by rw [decide_eq_false h, Bool.false_and]
end Go.Proofs.Ythcfiobnnceomaa

/-
  The document's sectors of a core: how many, which are free, and whether there is room.
-/
set_option maxRecDepth 100000
namespace Go.Proofs.Ythcfiobnnceomaa
open Go.ChangeShapes Go.WideShapes Go.ChangeAt Go.RowKit Go.Proofs.Palim

set_option maxHeartbeats 1000000 in
theorem l7Has_any (v : Value) (ls : List Int) (a : Int) (r : Bool) (w : World) (h : Sl w 1 v ls.length (ics ls)) (hr : decide (a ∈ ls) = r) :
    Calls Try.prog 18 #[v, .int .i64 a] w fun e w' => e = .returned (.bool r) ∧ Below w.heap.size w w' := by
  obtain ⟨n, HL⟩ : ∃ n, Hid (ls.length = n) := ⟨_, Lib.hid rfl⟩
  have HR := Lib.hid hr
  clear hr
  rw [HL.out] at h
  have HS := Lib.hid h
  obtain ⟨_, A, c, rfl, _, hcm, _⟩ := h
  unfold maxLen at hcm
  have hnm : n ≤ c := by assumption
  go_enter Try.func18, Try.ntmps18
  go_wp2
  go_loopw [5] (fun i wr => ∃ (k : Nat), k ≤ n ∧ i = .int .i64 k ∧ wr = w ∧ Hid (∀ (j : Nat) (h : j < ls.length), j < k → ls[j] ≠ a)) (fun i _ => n - (RowKit.intOf i).toNat)
  case atStart => exact ⟨0, Nat.zero_le _, rfl, rfl, Lib.hid (fun j _ h => absurd h (Nat.not_lt_zero _))⟩
  case round =>
    obtain ⟨k, hk, rfl, rfl, HG⟩ := hrel
    by_cases hlt : k < n
    case pos =>
      have hl0 : k < ls.length := by rw [HL.out]; exact hlt
      obtain ⟨b, off, c', hvv, _, _, hcell⟩ := HS.out.form (by omega)
      injection hvv with e1 e2 e3
      subst e1 e3
      clear e2
      have g0 := hcell k _ (ics_at ls k hl0)
      have hk1 : (k : Int) < (n : Int) := by omega
      have HGS := Lib.hid (show ls[k] ≠ a → ∀ (j : Nat) (h : j < ls.length), j < k + 1 → ls[j] ≠ a from fun hg j hj hjk => by
        by_cases e : j = k
        · subst e; exact hg
        · exact HG.out j hj (by omega))
      have HT := Lib.hid (show ls[k] = a → true = r from fun e => by rw [← HR.out, decide_eq_true (show a ∈ ls from e ▸ List.getElem_mem hl0)])
      generalize ls[k] = y at g0 HGS HT
      clear HG hcell hl0
      by_cases hya : y = a
      case pos =>
        have HT1 := Lib.hid (HT.out hya)
        have hq : (y == a) = true := by simpa using hya
        have hq2 : decide (y = a) = true := by simpa using hya
        clear HGS HT hya
        go_wp2
        go_ret
        exact ⟨ret_boolB HT1.out, Below.refl _ _⟩
      case neg =>
        have HG1 := Lib.hid (HGS.out hya)
        have hq : (y == a) = false := by simpa using hya
        have hq2 : decide (y = a) = false := by simpa using hya
        clear HGS HT hya
        go_wp2
        go_roundw
        case rel => exact ⟨k + 1, by omega, by go_num, by first | rfl | trivial, HG1⟩
        case measure => simp [RowKit.intOf]; omega
    case neg =>
      have HT1 := Lib.hid (show false = r from by
        rw [← HR.out, decide_eq_false]
        intro hm
        obtain ⟨i, hi, e⟩ := List.mem_iff_getElem.1 hm
        exact HG.out i hi (by rw [HL.out] at hi; omega) e)
      have hkn : ¬ (k : Int) < (n : Int) := by omega
      clear HG
      go_wp2
      go_ret
      exact ⟨ret_boolB HT1.out, Below.refl _ _⟩

theorem ownI_b {w w' : World} {base e sz n : Nat} {v : Value} {xs : List Value} (h : w.ownsRow base e sz v n xs) (hb : Below w.heap.size w w') : w'.ownsRow base e sz v n xs := own_kept h (fun b e => hb.block b (h.lt b e).2)
theorem sl_intR (w : World) (x : Int) (e : Nat) : Sl (w.alloc (.cells #[.int .i64 x] e)) 1 (.slice (some ⟨w.heap.size, 0, none⟩) 1 1) 1 [.int .i64 x] := by
  refine ⟨rfl, _, _, rfl, Nat.le_refl _, by unfold maxLen; omega, Or.inr ⟨w.heap.size, 0, rfl, fun j u hu => ?_⟩⟩
  have := (box_new w #[.int .i64 x] e).cell j hu
  rwa [Nat.zero_add]

set_option maxHeartbeats 4000000 in
theorem l7Free_any (vs vd vp vi : Value) (c : CoreM) (n : Int) (s : Nat) (w : World) (h : CoreR w vs vd vp vi c) (hs : CoreShort c) (hro : RoomOk c n) (hn0 : -9223372036854775808 ≤ n) (hr : sumF c n = s) :
    Calls Try.prog 19 #[cv c vs vd vp vi, .int .i64 n] w fun e w' => ∃ A cap, e = .returned (.slice A s cap) ∧ Below w.heap.size w w' := by
  have hnot : ∀ (x : Bool) (w : World), (Op.unary .not (.bool x)).run Try.prog w = .ok (.bool (!x)) w := fun _ _ => rfl
  obtain ⟨i0, hi, hz0, hz1, hz2⟩ := info_parts infoInt
  have HR := Lib.hid hr
  have HS := Lib.hid hs
  have HRO := Lib.hid hro
  have hn120 := hro.2
  obtain ⟨A0, k0, A1, k1, A2, k2, A3, k3, rfl, rfl, rfl, rfl⟩ := h.forms
  have HRD := Lib.hid h
  have hn1 := Below.new1 (w := w.alloc (.cells #[.int .i64 c.txg, .slice A0 c.sets.length k0, .slice A1 c.ddt.length k1, .slice A2 c.parts.length k2, .bool c.dirty, .slice A3 c.safe.length k3, .int .i64 c.logn] 35)) (.cells #[] 3)
  have XC := Lib.hid (((kbox_new h 35).below hn1).box)
  have hb0 := Below.new1 (w := w) (.cells #[.int .i64 c.txg, .slice A0 c.sets.length k0, .slice A1 c.ddt.length k1, .slice A2 c.parts.length k2, .bool c.dirty, .slice A3 c.safe.length k3, .int .i64 c.logn] 35)
  have B := Lib.hid (hb0.trans (hn1.mono hb0.size))
  have HO := Lib.hid (show World.ownsRow _ (w.heap.size + 1) 3 1 (.slice (some ⟨w.heap.size + 1, 0, none⟩) 0 0) 0 [] from by have := World.ownsRow_made (e := 3) (w.alloc (.cells #[.int .i64 c.txg, .slice A0 c.sets.length k0, .slice A1 c.ddt.length k1, .slice A2 c.parts.length k2, .bool c.dirty, .slice A3 c.safe.length k3, .int .i64 c.logn] 35)) #[] 0 (Nat.le_refl _) (by unfold maxLen; omega) (rfl : (0 : Nat) * 1 = 0); simpa using this)
  clear h hs hro hr hn1 hb0
  go_enter Try.func19, Try.ntmps19
  go_wp2
  obtain ⟨W0, HWE⟩ : ∃ W0, (w.alloc (.cells #[.int .i64 c.txg, .slice A0 c.sets.length k0, .slice A1 c.ddt.length k1, .slice A2 c.parts.length k2, .bool c.dirty, .slice A3 c.safe.length k3, .int .i64 c.logn] 35)).alloc (.cells #[] 3) = W0 := ⟨_, rfl⟩
  rw [HWE] at XC B HO ⊢
  clear HWE
  have HC0 := Lib.hid (show 0 = cntB (partF c n) 13 from (cnt_start (partF_there c n)).symm)
  go_loopw [5, 6, 7, 8] (fun lv i _ _ wr => ∃ (m k : Nat) (A : Option Addr) (cap : Nat) (xs : List Value), 13 ≤ m ∧ k ≤ m ∧ i = .int .i64 m ∧ (m = 13 ∨ (m : Int) ≤ n) ∧ lv = .slice A k cap ∧ Hid (k = cntB (partF c n) m) ∧ Hid (wr.ownsRow (w.heap.size + 1) 3 1 (.slice A k cap) k xs) ∧ Hid (Box wr w.heap.size (kcore c (.slice A0 c.sets.length k0) (.slice A1 c.ddt.length k1) (.slice A2 c.parts.length k2) (.slice A3 c.safe.length k3))) ∧ Hid (Below w.heap.size w wr)) (fun _ i _ _ _ => 121 - (RowKit.intOf i).toNat)
  case atStart => exact ⟨13, 0, _, _, _, Nat.le_refl _, Nat.zero_le _, rfl, Or.inl rfl, rfl, HC0, HO, XC, B⟩
  case round =>
    clear XC B HO HC0
    obtain ⟨m, k, A, cap, xs, hm13, hkm, rfl, hmn, rfl, HC, HO, XC, B⟩ := hrel
    by_cases hlt : (m : Int) < n
    case pos =>
      have hm120 : m < 120 := by omega
      have n2 := XC.out.cell 2 rfl
      have n5 := XC.out.cell 5 rfl
      go_wp2_with fail
      refine (l5At_any _ c.ddt (m : Int) _ (HRD.out.below B.out).d (HRD.out.below B.out).ld).mono ?_
      rintro e w2 ⟨kk, r, rfl, hat, hth, hb⟩
      have HST := Lib.hid (at_stored HRO.out.1.2.1.2 hat hth hm13 hm120)
      have HO' := Lib.hid (ownI_b HO.out hb)
      clear hat hth HO n2 n5
      have XC' := Lib.hid (XC.out.below hb XC.out.lt)
      have B' := Lib.hid (B.out.trans (hb.mono B.out.size))
      clear XC B
      have XC := XC'
      have B := B'
      clear XC' B'
      have n5 := XC.out.cell 5 rfl
      clear hb
      cases r with
      | true =>
        have HC1 := Lib.hid (show k = cntB (partF c n) (m + 1) from by rw [(part_at hm13 hlt HST.out rfl).2.2, HC.out]; simp)
        clear HC HST
        go_wp2
        go_roundw
        case rel => exact ⟨m + 1, k, A, cap, xs, by omega, by omega, by first | rfl | go_num, Or.inr (by omega), rfl, HC1, HO', XC, B⟩
        case measure => simp [RowKit.intOf]; omega
      | false =>
        obtain ⟨sf, HSF⟩ : ∃ sf, Hid (safeB c.safe m = sf) := ⟨_, Lib.hid rfl⟩
        have HME := Lib.hid ((mem_safe (ls := c.safe) hm13 hm120).trans HSF.out)
        have HCX := Lib.hid ((part_at hm13 hlt HST.out HSF.out).2.2)
        clear HST HSF
        go_wp2_with fail
        refine (l7Has_any _ c.safe (m : Int) sf _ (HRD.out.below B.out).i HME.out).mono ?_
        rintro e w3 ⟨rfl, hb⟩
        have HO2 := Lib.hid (ownI_b HO'.out hb)
        clear HO' n5 HME
        have XC' := Lib.hid (XC.out.below hb XC.out.lt)
        have B' := Lib.hid (B.out.trans (hb.mono B.out.size))
        clear XC B
        have XC := XC'
        have B := B'
        clear XC' B'
        clear hb
        cases sf with
        | true =>
          have HC1 := Lib.hid (show k = cntB (partF c n) (m + 1) from by rw [HCX.out, HC.out]; simp)
          clear HC HCX
          go_wp2
          go_roundw
          case rel => exact ⟨m + 1, k, A, cap, xs, by omega, by omega, by first | rfl | go_num, Or.inr (by omega), rfl, HC1, HO2, XC, B⟩
          case measure => simp [RowKit.intOf]; omega
        | false =>
          have HC1 := Lib.hid (show k + 1 = cntB (partF c n) (m + 1) from by rw [HCX.out, HC.out]; simp)
          clear HC HCX
          have hn2 := Below.new1 (w := w3) (.cells #[.int .i64 (m : Int)] 3)
          have HO3 := Lib.hid (ownI_b HO2.out hn2)
          have HSL := Lib.hid (sl_intR w3 (m : Int) 3)
          have XC3 := Lib.hid (XC.out.below hn2 XC.out.lt)
          have B3 := Lib.hid (B.out.trans (hn2.mono B.out.size))
          have hxl := XC.out.lt
          clear HO2 XC B hn2
          go_wp2_with (first | (at_builtin; refine wpList_append_freshB _ rfl _ _ 25 rfl (w.heap.size + 1) 3 i0 _ 1 8 Try.underlying25 hi hz0 hz1 hz2 rfl (by omega) (.slice A k cap) k xs rfl HO3.out (.slice (some ⟨w3.heap.size, 0, none⟩) 1 1) 1 [.int .i64 (m : Int)] rfl HSL.out (by simp [Value.oneCell']) (by unfold maxLen; omega) (by omega) (by simp; omega) ?_))
          intro A4 cap4 w4 hown hg _
          have hb4 := below_grownB hg (fun b hb => (HO3.out.lt b hb).1) (show w.heap.size + 1 ≤ _ from by simp; omega)
          have HO4 := Lib.hid hown
          have XC4 := Lib.hid (XC3.out.below hb4 (by omega))
          have B4 := Lib.hid (B3.out.trans (hb4.mono (by omega)))
          clear hown hg hb4 HO3 XC3 B3 HSL
          go_wp2
          go_roundw
          case rel => exact ⟨m + 1, k + 1, A4, cap4, _, by omega, by omega, by first | rfl | go_num, Or.inr (by omega), rfl, HC1, HO4, XC4, B4⟩
          case measure => simp [RowKit.intOf]; omega
    case neg =>
      have HK := Lib.hid (show k = s from by rw [← HR.out, (sums_good HRO.out).2.2, HC.out]; exact cnt_last (partF_there c n) hlt (by omega))
      clear HO HC
      go_wp2
      go_ret
      exact ⟨⟨A, cap, by show Ending.returned (.slice A k cap) = .returned (.slice A s cap); rw [HK.out]⟩, B.out⟩

set_option maxHeartbeats 4000000 in
theorem specRoomSums_is (vs vd vp vi : Value) (c : CoreM) (n : Int) (s o f : Nat) (w : World) (h : CoreR w vs vd vp vi c) (hs : CoreShort c) (hn0 : -9223372036854775808 ≤ n) (hr : sumS c n = s ∧ sumO c n = o ∧ sumF c n = f) :
    Calls Try.prog 6 #[cv c vs vd vp vi, .int .i64 n] w fun e w' => e = .returned (.tuple #[.int .i64 (s : Int), .int .i64 (o : Int), .int .i64 (f : Int)]) ∧ Below w.heap.size w w' := by
  have hnot : ∀ (x : Bool) (w : World), (Op.unary .not (.bool x)).run Try.prog w = .ok (.bool (!x)) w := fun _ _ => rfl
  have HR := Lib.hid hr
  have HS := Lib.hid hs
  obtain ⟨A0, k0, A1, k1, A2, k2, A3, k3, rfl, rfl, rfl, rfl⟩ := h.forms
  have HRD := Lib.hid h
  have hb0 := Below.new1 (w := w) (.cells #[.int .i64 c.txg, .slice A0 c.sets.length k0, .slice A1 c.ddt.length k1, .slice A2 c.parts.length k2, .bool c.dirty, .slice A3 c.safe.length k3, .int .i64 c.logn] 35)
  have B := Lib.hid hb0
  have XC := Lib.hid ((kbox_new h 35).box)
  clear h hs hr hb0
  go_enter Try.func6, Try.ntmps6
  go_upto_region 1 with fail
  obtain ⟨W0, HWE⟩ : ∃ W0, w.alloc (.cells #[.int .i64 c.txg, .slice A0 c.sets.length k0, .slice A1 c.ddt.length k1, .slice A2 c.parts.length k2, .bool c.dirty, .slice A3 c.safe.length k3, .int .i64 c.logn] 35) = W0 := ⟨_, rfl⟩
  rw [HWE] at XC B ⊢
  clear HWE
  by_cases hok : CoreOkM c
  case neg =>
    have HZ := Lib.hid (show s = 0 ∧ o = 0 ∧ f = 0 from by obtain ⟨h1, h2, h3⟩ := sums_bad (c := c) (n := n) (fun h => hok h.1); rw [← HR.out.1, ← HR.out.2.1, ← HR.out.2.2]; exact ⟨h1, h2, h3⟩)
    have hor := decide_eq_false hok
    clear hok
    go_wp2_with (refine wpList_load_box rfl _ rfl aggCore rfl (kcore c (.slice A0 c.sets.length k0) (.slice A1 c.ddt.length k1) (.slice A2 c.parts.length k2) (.slice A3 c.safe.length k3)) rfl XC.out ?_)
    refine (specCoreOk_is _ _ _ _ c _ _ (HRD.out.below B.out) HS.out hor).mono ?_
    rintro e w2 ⟨rfl, hb⟩
    have XC' := Lib.hid (XC.out.below hb XC.out.lt)
    have B' := Lib.hid (B.out.trans (hb.mono B.out.size))
    clear XC B
    have XC := XC'
    have B := B'
    clear XC' B'
    clear hb
    go_wp2
    refine bodyPost_ret (v := .tuple #[.int .i64 0, .int .i64 0, .int .i64 0]) (by simp [results, Try.results6, go_sem]) rfl ?_
    exact ⟨by rw [HZ.out.1, HZ.out.2.1, HZ.out.2.2]; rfl, B.out⟩
  case pos =>
    have hor := decide_eq_true hok
    by_cases hn : n ≤ 120
    case neg =>
      have HZ := Lib.hid (show s = 0 ∧ o = 0 ∧ f = 0 from by obtain ⟨h1, h2, h3⟩ := sums_bad (c := c) (n := n) (fun h => hn h.2); rw [← HR.out.1, ← HR.out.2.1, ← HR.out.2.2]; exact ⟨h1, h2, h3⟩)
      have q1 : n > 120 := by omega
      clear hok hn
      go_wp2_with (refine wpList_load_box rfl _ rfl aggCore rfl (kcore c (.slice A0 c.sets.length k0) (.slice A1 c.ddt.length k1) (.slice A2 c.parts.length k2) (.slice A3 c.safe.length k3)) rfl XC.out ?_)
      refine (specCoreOk_is _ _ _ _ c _ _ (HRD.out.below B.out) HS.out hor).mono ?_
      rintro e w2 ⟨rfl, hb⟩
      have XC' := Lib.hid (XC.out.below hb XC.out.lt)
      have B' := Lib.hid (B.out.trans (hb.mono B.out.size))
      clear XC B
      have XC := XC'
      have B := B'
      clear XC' B'
      clear hb
      go_wp2
      refine bodyPost_ret (v := .tuple #[.int .i64 0, .int .i64 0, .int .i64 0]) (by simp [results, Try.results6, go_sem]) rfl ?_
      exact ⟨by rw [HZ.out.1, HZ.out.2.1, HZ.out.2.2]; rfl, B.out⟩
    case pos =>
      have HRO := Lib.hid (show RoomOk c n from ⟨hok, hn⟩)
      have q1 : ¬ n > 120 := by omega
      have HC0 := Lib.hid (show 0 = cntB (partS c n) 13 ∧ 0 = cntB (partO c n) 13 from ⟨(cnt_start (partS_there c n)).symm, (cnt_start (partO_there c n)).symm⟩)
      clear hok
      go_wp2_with (refine wpList_load_box rfl _ rfl aggCore rfl (kcore c (.slice A0 c.sets.length k0) (.slice A1 c.ddt.length k1) (.slice A2 c.parts.length k2) (.slice A3 c.safe.length k3)) rfl XC.out ?_)
      refine (specCoreOk_is _ _ _ _ c _ _ (HRD.out.below B.out) HS.out hor).mono ?_
      rintro e w2 ⟨rfl, hb⟩
      have XC' := Lib.hid (XC.out.below hb XC.out.lt)
      have B' := Lib.hid (B.out.trans (hb.mono B.out.size))
      clear XC B
      have XC := XC'
      have B := B'
      clear XC' B'
      clear hb
      go_wp2
      go_loopw [7, 8, 9, 10, 11] (fun i7 i8 i _ _ wr => ∃ (m x y : Nat), 13 ≤ m ∧ x ≤ m ∧ y ≤ m ∧ i7 = .int .i64 x ∧ i8 = .int .i64 y ∧ i = .int .i64 m ∧ (m = 13 ∨ (m : Int) ≤ n) ∧ Hid (x = cntB (partS c n) m ∧ y = cntB (partO c n) m) ∧ Hid (Box wr w.heap.size (kcore c (.slice A0 c.sets.length k0) (.slice A1 c.ddt.length k1) (.slice A2 c.parts.length k2) (.slice A3 c.safe.length k3))) ∧ Hid (Below w.heap.size w wr)) (fun _ _ i _ _ _ => 121 - (RowKit.intOf i).toNat)
      case atStart => exact ⟨13, 0, 0, Nat.le_refl _, Nat.zero_le _, Nat.zero_le _, rfl, rfl, rfl, Or.inl rfl, HC0, XC, B⟩
      case round =>
        clear XC B HC0
        obtain ⟨m, x, y, hm13, hxm, hym, rfl, rfl, rfl, hmn, HC, XC, B⟩ := hrel
        by_cases hlt : (m : Int) < n
        case pos =>
          have hm120 : m < 120 := by omega
          have n2 := XC.out.cell 2 rfl
          go_wp2_with fail
          refine (l5At_any _ c.ddt (m : Int) _ (HRD.out.below B.out).d (HRD.out.below B.out).ld).mono ?_
          rintro e w3 ⟨kk, r, rfl, hat, hth, hb⟩
          have HST := Lib.hid (at_stored HRO.out.1.2.1.2 hat hth hm13 hm120)
          clear hat hth n2
          have XC' := Lib.hid (XC.out.below hb XC.out.lt)
          have B' := Lib.hid (B.out.trans (hb.mono B.out.size))
          clear XC B
          have XC := XC'
          have B := B'
          clear XC' B'
          have n5 := XC.out.cell 5 rfl
          clear hb
          cases r with
          | true =>
            have HC1 := Lib.hid (show x + 1 = cntB (partS c n) (m + 1) ∧ y = cntB (partO c n) (m + 1) from by have hp := part_at hm13 hlt HST.out (rfl : safeB c.safe m = _); rw [hp.1, hp.2.1, HC.out.1, HC.out.2]; simp)
            clear HC HST
            go_wp2
            go_roundw
            case rel => exact ⟨m + 1, x + 1, y, by omega, by omega, by omega, by first | rfl | go_num, rfl, by first | rfl | go_num, Or.inr (by omega), HC1, XC, B⟩
            case measure => simp [RowKit.intOf]; omega
          | false =>
            obtain ⟨sf, HSF⟩ : ∃ sf, Hid (safeB c.safe m = sf) := ⟨_, Lib.hid rfl⟩
            have HME := Lib.hid ((mem_safe (ls := c.safe) hm13 hm120).trans HSF.out)
            have HCX := Lib.hid (part_at hm13 hlt HST.out HSF.out)
            clear HST HSF
            go_wp2_with fail
            refine (l7Has_any _ c.safe (m : Int) sf _ (HRD.out.below B.out).i HME.out).mono ?_
            rintro e w4 ⟨rfl, hb⟩
            clear n5 HME
            have XC' := Lib.hid (XC.out.below hb XC.out.lt)
            have B' := Lib.hid (B.out.trans (hb.mono B.out.size))
            clear XC B
            have XC := XC'
            have B := B'
            clear XC' B'
            clear hb
            cases sf with
            | true =>
              have HC1 := Lib.hid (show x = cntB (partS c n) (m + 1) ∧ y + 1 = cntB (partO c n) (m + 1) from by rw [HCX.out.1, HCX.out.2.1, HC.out.1, HC.out.2]; simp)
              clear HC HCX
              go_wp2
              go_roundw
              case rel => exact ⟨m + 1, x, y + 1, by omega, by omega, by omega, rfl, by first | rfl | go_num, by first | rfl | go_num, Or.inr (by omega), HC1, XC, B⟩
              case measure => simp [RowKit.intOf]; omega
            | false =>
              have HC1 := Lib.hid (show x = cntB (partS c n) (m + 1) ∧ y = cntB (partO c n) (m + 1) from by rw [HCX.out.1, HCX.out.2.1, HC.out.1, HC.out.2]; simp)
              clear HC HCX
              go_wp2
              go_roundw
              case rel => exact ⟨m + 1, x, y, by omega, by omega, by omega, rfl, rfl, by first | rfl | go_num, Or.inr (by omega), HC1, XC, B⟩
              case measure => simp [RowKit.intOf]; omega
        case neg =>
          have HK := Lib.hid (show x = s ∧ y = o from by
            obtain ⟨h1, h2, _⟩ := sums_good HRO.out
            rw [← HR.out.1, ← HR.out.2.1, h1, h2, HC.out.1, HC.out.2]
            exact ⟨cnt_last (partS_there c n) hlt (by omega), cnt_last (partO_there c n) hlt (by omega)⟩)
          clear HC
          go_wp2_with (refine wpList_load_box rfl _ rfl aggCore rfl (kcore c (.slice A0 c.sets.length k0) (.slice A1 c.ddt.length k1) (.slice A2 c.parts.length k2) (.slice A3 c.safe.length k3)) rfl XC.out ?_)
          refine (l7Free_any _ _ _ _ c n f _ (HRD.out.below B.out) HS.out HRO.out hn0 HR.out.2.2).mono ?_
          rintro e w5 ⟨A, cap, rfl, hb⟩
          have XC' := Lib.hid (XC.out.below hb XC.out.lt)
          have B' := Lib.hid (B.out.trans (hb.mono B.out.size))
          clear XC B
          have XC := XC'
          have B := B'
          clear XC' B'
          clear hb
          go_wp2
          refine bodyPost_ret (v := .tuple #[.int .i64 (x : Int), .int .i64 (y : Int), .int .i64 (f : Int)]) (by simp [results, Try.results6, go_sem]) rfl ?_
          exact ⟨by rw [HK.out.1, HK.out.2], B.out⟩
end Go.Proofs.Ythcfiobnnceomaa

/-
  impl's sets of sectors: add, within, without, count.
-/
set_option maxRecDepth 100000
namespace Go.Proofs.Ythcfiobnnceomaa
open Go.ChangeShapes Go.WideShapes Go.ChangeAt Go.RowKit Go.Proofs.Palim

/-- Two words as a value. -/
abbrev bv (x0 x1 : Nat) : Value := .agg #[.int .u64 (x0 : Int), .int .u64 (x1 : Int)]
theorem idxb0 (a b : Value) (w : World) : (Instr.index 56 (.agg #[a, b]) (.int .i64 0)).run Try.prog w = .ok a w := by kernel_rfl
theorem idxb1 (a b : Value) (w : World) : (Instr.index 56 (.agg #[a, b]) (.int .i64 1)).run Try.prog w = .ok b w := by kernel_rfl

set_option maxHeartbeats 2000000 in
theorem bcount_any (x0 x1 : Nat) (h0 : x0 < 2 ^ 64) (h1 : x1 < 2 ^ 64) (w : World) :
    Calls Try.prog 25 #[bv x0 x1] w fun e w' => e = .returned (.int .i64 (ones 64 x0 + ones 64 x1 : Nat)) ∧ Below w.heap.size w w' := by
  obtain ⟨a, HA⟩ : ∃ a, Hid (ones 64 x0 = a) := ⟨_, Lib.hid rfl⟩
  obtain ⟨b, HB⟩ : ∃ b, Hid (ones 64 x1 = b) := ⟨_, Lib.hid rfl⟩
  rw [HA.out, HB.out]
  have ha : a ≤ 64 := by rw [← HA.out]; unfold ones; have := List.countP_le_length (p := fun i => x0.testBit i) (l := List.range 64); simpa using this
  have hb : b ≤ 64 := by rw [← HB.out]; unfold ones; have := List.countP_le_length (p := fun i => x1.testBit i) (l := List.range 64); simpa using this
  have e1 : IntKind.wrap .i64 (a : Int) = (a : Int) := IntWalk.i64_in _ (by omega)
  have e2 : IntKind.wrap .i64 ((a : Int) + (b : Int)) = ((a + b : Nat) : Int) := by rw [IntWalk.i64_in _ (by omega)]; omega
  have hi0 := idxb0 (.int .u64 (x0 : Int)) (.int .u64 (x1 : Int))
  have hi1 := idxb1 (.int .u64 (x0 : Int)) (.int .u64 (x1 : Int))
  have hn := Lib.hid (show Below w.heap.size w (w.alloc (.cells #[.int .u64 (x0 : Int), .int .u64 (x1 : Int)] 56)) from (Below.refl _ _).alloc (Nat.le_refl _) _)
  go_enter Try.func25, Try.ntmps25
  go_wp2
  refine wp_loop_rounds 3 ?_
  rw [rounds_succ]
  go_wp2_with fail
  refine (ones_any x0 h0 _).mono ?_
  rintro e w1 ⟨rfl, rfl⟩
  rw [HA.out]
  go_wp2
  rw [rounds_succ]
  go_wp2_with fail
  refine (ones_any x1 h1 _).mono ?_
  rintro e w1 ⟨rfl, rfl⟩
  rw [HB.out]
  go_wp2
  rw [rounds_succ]
  go_wp2
  go_ret
  exact ⟨rfl, hn.out⟩

set_option maxHeartbeats 4000000 in
theorem badd_any (b x0 x1 : Nat) (P : Nat → Bool) (a : Int) (w : World) (hB : Box w b [.int .u64 (x0 : Int), .int .u64 (x1 : Int)]) (hR : BitsR x0 x1 P) :
    Calls Try.prog 44 #[.pointer (some ⟨b, 0, none⟩), .int .i64 a] w fun e w' => e = .returned (.tuple #[]) ∧ ∃ y0 y1, BitsR y0 y1 (addB P a) ∧ Box w' b [.int .u64 (y0 : Int), .int .u64 (y1 : Int)] ∧ Turned (fun k => k = b) w w' := by
  have HB := Lib.hid hB
  have HR := Lib.hid hR
  clear hB hR
  by_cases hr : 13 ≤ a ∧ a < 120
  case neg =>
    have HF := Lib.hid (show ∃ y0 y1, BitsR y0 y1 (addB P a) ∧ Box w b [.int .u64 (y0 : Int), .int .u64 (y1 : Int)] ∧ Turned (fun k => k = b) w w from ⟨x0, x1, by rw [addB_out hr]; exact HR.out, HB.out, Turned.refl _ _⟩)
    have h2 : ¬ a ≥ 13 ∨ (a ≥ 13 ∧ ¬ a < 120) := by omega
    clear hr
    rcases h2 with h1 | ⟨h1, h2⟩
    all_goals
      go_enter Try.func44, Try.ntmps44
      go_wp2
      first
        | (go_ret; exact ⟨rfl, HF.out⟩)
        | exact ⟨rfl, .tuple #[], by simp [results, Try.results44, go_sem], rfl, HF.out⟩
  case pos =>
    obtain ⟨n, rfl⟩ : ∃ n : Nat, a = (n : Int) := ⟨a.toNat, by omega⟩
    have r1 : (n : Int) ≥ 13 := hr.1
    have r2 : (n : Int) < 120 := hr.2
    clear hr
    obtain ⟨c0, c1⟩ := HB.out.two
    have f0 := HB.out.open_ 0
    have f1 := HB.out.open_ 1
    have w0 : IntKind.wrap .i64 0 = 0 := IntWalk.i64_in _ (by omega)
    have w1 : IntKind.wrap .i64 1 = 1 := IntWalk.i64_in _ (by omega)
    by_cases h6 : n < 64
    case pos =>
      obtain ⟨v, HV⟩ : ∃ v, Hid (2 ^ n = v) := ⟨_, Lib.hid rfl⟩
      obtain ⟨y, HY⟩ : ∃ y, Hid (x0 ||| v = y) := ⟨_, Lib.hid rfl⟩
      have q1 : (n : Int).tdiv 64 = 0 := by rw [Int.tdiv_eq_ediv_of_nonneg (by omega)]; omega
      have q2 : (n : Int).tmod 64 = (n : Int) := by rw [Int.tmod_eq_emod_of_nonneg (by omega)]; omega
      have hv : v < 2 ^ 64 := by rw [← HV.out]; exact Nat.pow_lt_pow_right (by omega) h6
      have s0 : (2 : Int) ^ n = (v : Int) := by rw [← HV.out]; simp
      have s1 : IntKind.wrap .u64 (v : Int) = (v : Int) := wrap_u64 _ hv
      have n0 : (0 : Int) ≤ (n : Int) := by omega
      have n1 : (n : Int) ≤ 64 := by omega
      have o1 : bits .or .u64 (x0 : Int) (v : Int) = (y : Int) := by rw [bits_or_nat _ _ HR.out.l0 hv, HY.out]
      have HF := Lib.hid (show ∃ y0 y1, BitsR y0 y1 (addB P (n : Int)) ∧ Box (w.drew.setCell ⟨b, 0, none⟩ (.int .u64 (y : Int))) b [.int .u64 (y0 : Int), .int .u64 (y1 : Int)] ∧ Turned (fun k => k = b) w (w.drew.setCell ⟨b, 0, none⟩ (.int .u64 (y : Int))) from
        ⟨y, x1, by rw [← HY.out, ← HV.out]; exact bits_add0 HR.out (by omega) h6, HB.out.drew.set 0 _, turned_setCell (S := fun k => k = b) (turned_of_below ((Below.refl _ w).drew)) (p := ⟨b, 0, none⟩) rfl _⟩)
      go_enter Try.func44, Try.ntmps44
      go_wp2_with fail
      refine wp_region_held_drew (S := fun _ => True) (by kernel_rfl) trivial (fun hHeld => ?_)
      refine wpAnyH_take (i := 0) (v := ?_) rfl (by kernel_rfl) (by kernel_rfl) (by kernel_rfl) (fun _ _ _ h => h) (Or.inl ⟨by first | kernel_rfl | rfl, ?_⟩) (by assumption) ?_
      rotate_left
      · (intro w' hSw; clear hSw; go_simp; try with_reducible rfl)
      try simp only [Act.put]
      refine wpAnyH_take (i := 1) (v := ?_) rfl (by kernel_rfl) (by kernel_rfl) (by kernel_rfl) (fun _ _ _ h => h) (Or.inl ⟨by first | kernel_rfl | rfl, ?_⟩) (by assumption) ?_
      rotate_left
      · (intro w' hSw; clear hSw; go_simp; try with_reducible rfl)
      try simp only [Act.put]
      refine wpAnyH_take (i := 2) (v := ?_) rfl (by kernel_rfl) (by kernel_rfl) (by kernel_rfl) (fun _ _ _ h => h) (Or.inl ⟨by first | kernel_rfl | rfl, ?_⟩) (by assumption) ?_
      rotate_left
      · (intro w' hSw; clear hSw; go_simp; try with_reducible rfl)
      try simp only [Act.put]
      refine wpAnyH_take (i := 3) (v := ?_) rfl (by kernel_rfl) (by kernel_rfl) (by kernel_rfl) (fun _ _ _ h => h) (Or.inl ⟨by first | kernel_rfl | rfl, ?_⟩) (by assumption) ?_
      rotate_left
      · (intro w' hSw; clear hSw; go_simp; try with_reducible rfl)
      try simp only [Act.put]
      refine wpAnyH_take (i := 4) (v := ?_) rfl (by kernel_rfl) (by kernel_rfl) (by kernel_rfl) (fun _ _ _ h => h) (Or.inl ⟨by first | kernel_rfl | rfl, ?_⟩) (by assumption) ?_
      rotate_left
      · (intro w' hSw; clear hSw; go_simp; try with_reducible rfl)
      try simp only [Act.put]
      refine wpAnyH_take (i := 6) (v := ?_) rfl (by kernel_rfl) (by kernel_rfl) (by kernel_rfl) (fun _ _ _ h => h) (Or.inl ⟨by first | kernel_rfl | rfl, ?_⟩) (by assumption) ?_
      rotate_left
      · (intro w' hSw; clear hSw; go_simp; try with_reducible rfl)
      try simp only [Act.put]
      refine wpAnyH_take (i := 7) (v := ?_) rfl (by kernel_rfl) (by kernel_rfl) (by kernel_rfl) (fun _ _ _ h => h) (Or.inl ⟨by first | kernel_rfl | rfl, ?_⟩) (by assumption) ?_
      rotate_left
      · (intro w' hSw; clear hSw; go_simp; try with_reducible rfl)
      try simp only [Act.put]
      refine wpAnyH_take (i := 8) (v := ?_) rfl (by kernel_rfl) (by kernel_rfl) (by kernel_rfl) (fun _ _ _ h => h) (Or.inl ⟨by first | kernel_rfl | rfl, ?_⟩) (by assumption) ?_
      rotate_left
      · (intro w' hSw; clear hSw; go_simp; try with_reducible rfl)
      try simp only [Act.put]
      refine wpAnyH_take (i := 10) (v := ?_) rfl (by kernel_rfl) (by kernel_rfl) (by kernel_rfl) (fun _ _ _ h => h) (Or.inl ⟨by first | kernel_rfl | rfl, ?_⟩) (by assumption) ?_
      rotate_left
      · (intro w' hSw; clear hSw; go_simp; try with_reducible rfl)
      try simp only [Act.put]
      refine wpAnyH_ready (rs := [5]) (by kernel_rfl) (by simp) ?_
      refine AllReadyH.cons rfl (fun K hK => ?_) AllReadyH.nil
      go_simp
      refine hK.out _ _ trivial (fun hHeld2 => ?_)
      clear hK K
      try simp only [Act.put]
      refine wpAnyH_take (i := 9) (v := ?_) rfl (by kernel_rfl) (by kernel_rfl) (by kernel_rfl) (fun _ _ _ h => h) (Or.inl ⟨by first | kernel_rfl | rfl, ?_⟩) (by assumption) ?_
      rotate_left
      · (intro w' hSw; clear hSw; go_simp; try with_reducible rfl)
      try simp only [Act.put]
      refine wpAnyH_take (i := 11) (v := ?_) rfl (by kernel_rfl) (by kernel_rfl) (by kernel_rfl) (fun _ _ _ h => h) (Or.inl ⟨by first | kernel_rfl | rfl, ?_⟩) (by assumption) ?_
      rotate_left
      · (intro w' hSw; clear hSw; go_simp; try with_reducible rfl)
      try simp only [Act.put]
      refine wpAnyH_ready (rs := [12]) (by kernel_rfl) (by simp) ?_
      refine AllReadyH.cons rfl (fun K hK => ?_) AllReadyH.nil
      go_simp
      refine hK.out _ _ trivial (fun hHeld3 => ?_)
      clear hK K
      try simp only [Act.put]
      refine wpAnyH_done (by kernel_rfl) ?_ _
      go_simp
      clear hHeld hHeld2 hHeld3
      go_wp2
      exact ⟨rfl, .tuple #[], by simp [results, Try.results44, go_sem], rfl, HF.out⟩
    case neg =>
      obtain ⟨m, HM⟩ : ∃ m, Hid (n - 64 = m) := ⟨_, Lib.hid rfl⟩
      have hm := HM.out
      obtain ⟨v, HV⟩ : ∃ v, Hid (2 ^ m = v) := ⟨_, Lib.hid rfl⟩
      obtain ⟨y, HY⟩ : ∃ y, Hid (x1 ||| v = y) := ⟨_, Lib.hid rfl⟩
      have q1 : (n : Int).tdiv 64 = 1 := by rw [Int.tdiv_eq_ediv_of_nonneg (by omega)]; omega
      have q2 : (n : Int).tmod 64 = (m : Int) := by rw [Int.tmod_eq_emod_of_nonneg (by omega)]; omega
      have hv : v < 2 ^ 64 := by rw [← HV.out]; exact Nat.pow_lt_pow_right (by omega) (by omega)
      have s0 : (2 : Int) ^ m = (v : Int) := by rw [← HV.out]; simp
      have s1 : IntKind.wrap .u64 (v : Int) = (v : Int) := wrap_u64 _ hv
      have n0 : (0 : Int) ≤ (m : Int) := by omega
      have n1 : (m : Int) ≤ 64 := by omega
      have o1 : bits .or .u64 (x1 : Int) (v : Int) = (y : Int) := by rw [bits_or_nat _ _ HR.out.l1 hv, HY.out]
      have HF := Lib.hid (show ∃ y0 y1, BitsR y0 y1 (addB P (n : Int)) ∧ Box (w.drew.setCell ⟨b, 1, none⟩ (.int .u64 (y : Int))) b [.int .u64 (y0 : Int), .int .u64 (y1 : Int)] ∧ Turned (fun k => k = b) w (w.drew.setCell ⟨b, 1, none⟩ (.int .u64 (y : Int))) from
        ⟨x0, y, by rw [← HY.out, ← HV.out, ← HM.out]; exact bits_add1 HR.out (by omega) (by omega), HB.out.drew.set 1 _, turned_setCell (S := fun k => k = b) (turned_of_below ((Below.refl _ w).drew)) (p := ⟨b, 1, none⟩) rfl _⟩)
      clear hm
      go_enter Try.func44, Try.ntmps44
      go_wp2_with fail
      refine wp_region_held_drew (S := fun _ => True) (by kernel_rfl) trivial (fun hHeld => ?_)
      refine wpAnyH_take (i := 0) (v := ?_) rfl (by kernel_rfl) (by kernel_rfl) (by kernel_rfl) (fun _ _ _ h => h) (Or.inl ⟨by first | kernel_rfl | rfl, ?_⟩) (by assumption) ?_
      rotate_left
      · (intro w' hSw; clear hSw; go_simp; try with_reducible rfl)
      try simp only [Act.put]
      refine wpAnyH_take (i := 1) (v := ?_) rfl (by kernel_rfl) (by kernel_rfl) (by kernel_rfl) (fun _ _ _ h => h) (Or.inl ⟨by first | kernel_rfl | rfl, ?_⟩) (by assumption) ?_
      rotate_left
      · (intro w' hSw; clear hSw; go_simp; try with_reducible rfl)
      try simp only [Act.put]
      refine wpAnyH_take (i := 2) (v := ?_) rfl (by kernel_rfl) (by kernel_rfl) (by kernel_rfl) (fun _ _ _ h => h) (Or.inl ⟨by first | kernel_rfl | rfl, ?_⟩) (by assumption) ?_
      rotate_left
      · (intro w' hSw; clear hSw; go_simp; try with_reducible rfl)
      try simp only [Act.put]
      refine wpAnyH_take (i := 3) (v := ?_) rfl (by kernel_rfl) (by kernel_rfl) (by kernel_rfl) (fun _ _ _ h => h) (Or.inl ⟨by first | kernel_rfl | rfl, ?_⟩) (by assumption) ?_
      rotate_left
      · (intro w' hSw; clear hSw; go_simp; try with_reducible rfl)
      try simp only [Act.put]
      refine wpAnyH_take (i := 4) (v := ?_) rfl (by kernel_rfl) (by kernel_rfl) (by kernel_rfl) (fun _ _ _ h => h) (Or.inl ⟨by first | kernel_rfl | rfl, ?_⟩) (by assumption) ?_
      rotate_left
      · (intro w' hSw; clear hSw; go_simp; try with_reducible rfl)
      try simp only [Act.put]
      refine wpAnyH_take (i := 6) (v := ?_) rfl (by kernel_rfl) (by kernel_rfl) (by kernel_rfl) (fun _ _ _ h => h) (Or.inl ⟨by first | kernel_rfl | rfl, ?_⟩) (by assumption) ?_
      rotate_left
      · (intro w' hSw; clear hSw; go_simp; try with_reducible rfl)
      try simp only [Act.put]
      refine wpAnyH_take (i := 7) (v := ?_) rfl (by kernel_rfl) (by kernel_rfl) (by kernel_rfl) (fun _ _ _ h => h) (Or.inl ⟨by first | kernel_rfl | rfl, ?_⟩) (by assumption) ?_
      rotate_left
      · (intro w' hSw; clear hSw; go_simp; try with_reducible rfl)
      try simp only [Act.put]
      refine wpAnyH_take (i := 8) (v := ?_) rfl (by kernel_rfl) (by kernel_rfl) (by kernel_rfl) (fun _ _ _ h => h) (Or.inl ⟨by first | kernel_rfl | rfl, ?_⟩) (by assumption) ?_
      rotate_left
      · (intro w' hSw; clear hSw; go_simp; try with_reducible rfl)
      try simp only [Act.put]
      refine wpAnyH_take (i := 10) (v := ?_) rfl (by kernel_rfl) (by kernel_rfl) (by kernel_rfl) (fun _ _ _ h => h) (Or.inl ⟨by first | kernel_rfl | rfl, ?_⟩) (by assumption) ?_
      rotate_left
      · (intro w' hSw; clear hSw; go_simp; try with_reducible rfl)
      try simp only [Act.put]
      refine wpAnyH_ready (rs := [5]) (by kernel_rfl) (by simp) ?_
      refine AllReadyH.cons rfl (fun K hK => ?_) AllReadyH.nil
      go_simp
      refine hK.out _ _ trivial (fun hHeld2 => ?_)
      clear hK K
      try simp only [Act.put]
      refine wpAnyH_take (i := 9) (v := ?_) rfl (by kernel_rfl) (by kernel_rfl) (by kernel_rfl) (fun _ _ _ h => h) (Or.inl ⟨by first | kernel_rfl | rfl, ?_⟩) (by assumption) ?_
      rotate_left
      · (intro w' hSw; clear hSw; go_simp; try with_reducible rfl)
      try simp only [Act.put]
      refine wpAnyH_take (i := 11) (v := ?_) rfl (by kernel_rfl) (by kernel_rfl) (by kernel_rfl) (fun _ _ _ h => h) (Or.inl ⟨by first | kernel_rfl | rfl, ?_⟩) (by assumption) ?_
      rotate_left
      · (intro w' hSw; clear hSw; go_simp; try with_reducible rfl)
      try simp only [Act.put]
      refine wpAnyH_ready (rs := [12]) (by kernel_rfl) (by simp) ?_
      refine AllReadyH.cons rfl (fun K hK => ?_) AllReadyH.nil
      go_simp
      refine hK.out _ _ trivial (fun hHeld3 => ?_)
      clear hK K
      try simp only [Act.put]
      refine wpAnyH_done (by kernel_rfl) ?_ _
      go_simp
      clear hHeld hHeld2 hHeld3
      go_wp2
      exact ⟨rfl, .tuple #[], by simp [results, Try.results44, go_sem], rfl, HF.out⟩

theorem aggBits : Agg Try.prog 56 2 := ⟨Try.isAgg56, Try.sizeOf56⟩

set_option maxHeartbeats 4000000 in
theorem bwith_any (x0 x1 y0 y1 : Nat) (P Q : Nat → Bool) (hx : BitsR x0 x1 P) (hy : BitsR y0 y1 Q) (w : World) :
    Calls Try.prog 46 #[bv x0 x1, bv y0 y1] w fun e w' => ∃ z0 z1, e = .returned (bv z0 z1) ∧ BitsR z0 z1 (fun i => P i && Q i) ∧ Below w.heap.size w w' := by
  obtain ⟨z0, HZ0⟩ : ∃ z, Hid (x0 &&& y0 = z) := ⟨_, Lib.hid rfl⟩
  obtain ⟨z1, HZ1⟩ : ∃ z, Hid (x1 &&& y1 = z) := ⟨_, Lib.hid rfl⟩
  have o0 : bits .and .u64 (x0 : Int) (y0 : Int) = (z0 : Int) := by rw [← HZ0.out]; exact bits_and_nat _ _ hx.l0 hy.l0
  have o1 : bits .and .u64 (x1 : Int) (y1 : Int) = (z1 : Int) := by rw [← HZ1.out]; exact bits_and_nat _ _ hx.l1 hy.l1
  have HR := Lib.hid (show BitsR z0 z1 (fun i => P i && Q i) from by rw [← HZ0.out, ← HZ1.out]; exact bits_and hx hy)
  have hi0 := idxb0 (.int .u64 (y0 : Int)) (.int .u64 (y1 : Int))
  have hi1 := idxb1 (.int .u64 (y0 : Int)) (.int .u64 (y1 : Int))
  obtain ⟨X1, X2, X3, hsz, hB⟩ := box3 w #[.int .u64 (x0 : Int), .int .u64 (x1 : Int)] #[.int .u64 (y0 : Int), .int .u64 (y1 : Int)] #[.int .u64 0, .int .u64 0] 56 56 56
  have HB := Lib.hid hB
  have HX := Lib.hid X1
  have HT := Lib.hid X3
  obtain ⟨a0, a1⟩ := X1.two
  obtain ⟨b0, b1⟩ := X2.two
  obtain ⟨r0, r1⟩ := X3.two
  have f0 := X1.open_ 0
  have f1 := X1.open_ 1
  have g0 := X3.open_ 0
  have g1 := X3.open_ 1
  clear hB X1 X2 X3 hx hy
  go_enter Try.func46, Try.ntmps46
  go_upto_region 1 with fail
  obtain ⟨W, HW⟩ : ∃ W, ((w.alloc (.cells #[.int .u64 (x0 : Int), .int .u64 (x1 : Int)] 56)).alloc (.cells #[.int .u64 (y0 : Int), .int .u64 (y1 : Int)] 56)).alloc (.cells #[.int .u64 0, .int .u64 0] 56) = W := ⟨_, rfl⟩
  rw [HW] at HB HX HT a0 a1 b0 b1 r0 r1 f0 f1 g0 g1 hsz ⊢
  clear HW
  go_wp2
  refine wp_loop_rounds 3 ?_
  rw [rounds_succ]
  go_wp2
  rw [rounds_succ]
  go_wp2
  rw [rounds_succ]
  go_wp2
  have HF := ((((HT.out.other (p := ⟨w.heap.size, 0, none⟩) (by simp only; omega) (.int .u64 (z0 : Int))).other (p := ⟨w.heap.size, 1, none⟩) (by simp only; omega) (.int .u64 (z1 : Int))).set 0 (.int .u64 (z0 : Int))).set 1 (.int .u64 (z1 : Int)))
  have HL := ((((HB.out.setCell (p := ⟨w.heap.size, 0, none⟩) (Nat.le_refl _) (.int .u64 (z0 : Int))).setCell (p := ⟨w.heap.size, 1, none⟩) (Nat.le_refl _) (.int .u64 (z1 : Int))).setCell (p := ⟨w.heap.size + 2, 0, none⟩) (by simp) (.int .u64 (z0 : Int))).setCell (p := ⟨w.heap.size + 2, 1, none⟩) (by simp) (.int .u64 (z1 : Int)))
  refine bodyPost_ret (v := bv z0 z1) (results_box rfl _ (w.heap.size + 2) [.int .u64 (z0 : Int), .int .u64 (z1 : Int)] aggBits rfl rfl HF) rfl ?_
  exact ⟨z0, z1, rfl, HR.out, HL⟩

set_option maxHeartbeats 4000000 in
theorem bwout_any (x0 x1 y0 y1 : Nat) (P Q : Nat → Bool) (hx : BitsR x0 x1 P) (hy : BitsR y0 y1 Q) (w : World) :
    Calls Try.prog 47 #[bv x0 x1, bv y0 y1] w fun e w' => ∃ z0 z1, e = .returned (bv z0 z1) ∧ BitsR z0 z1 (fun i => P i && !Q i) ∧ Below w.heap.size w w' := by
  obtain ⟨z0, HZ0⟩ : ∃ z, Hid (nandB x0 y0 = z) := ⟨_, Lib.hid rfl⟩
  obtain ⟨z1, HZ1⟩ : ∃ z, Hid (nandB x1 y1 = z) := ⟨_, Lib.hid rfl⟩
  have o0 : bits .andNot .u64 (x0 : Int) (y0 : Int) = (z0 : Int) := by rw [← HZ0.out]; exact bits_andNot_nat _ _
  have o1 : bits .andNot .u64 (x1 : Int) (y1 : Int) = (z1 : Int) := by rw [← HZ1.out]; exact bits_andNot_nat _ _
  have HR := Lib.hid (show BitsR z0 z1 (fun i => P i && !Q i) from by rw [← HZ0.out, ← HZ1.out]; exact bits_nand hx hy)
  have hi0 := idxb0 (.int .u64 (y0 : Int)) (.int .u64 (y1 : Int))
  have hi1 := idxb1 (.int .u64 (y0 : Int)) (.int .u64 (y1 : Int))
  obtain ⟨X1, X2, X3, hsz, hB⟩ := box3 w #[.int .u64 (x0 : Int), .int .u64 (x1 : Int)] #[.int .u64 (y0 : Int), .int .u64 (y1 : Int)] #[.int .u64 0, .int .u64 0] 56 56 56
  have HB := Lib.hid hB
  have HX := Lib.hid X1
  have HT := Lib.hid X3
  obtain ⟨a0, a1⟩ := X1.two
  obtain ⟨b0, b1⟩ := X2.two
  obtain ⟨r0, r1⟩ := X3.two
  have f0 := X1.open_ 0
  have f1 := X1.open_ 1
  have g0 := X3.open_ 0
  have g1 := X3.open_ 1
  clear hB X1 X2 X3 hx hy
  go_enter Try.func47, Try.ntmps47
  go_upto_region 1 with fail
  obtain ⟨W, HW⟩ : ∃ W, ((w.alloc (.cells #[.int .u64 (x0 : Int), .int .u64 (x1 : Int)] 56)).alloc (.cells #[.int .u64 (y0 : Int), .int .u64 (y1 : Int)] 56)).alloc (.cells #[.int .u64 0, .int .u64 0] 56) = W := ⟨_, rfl⟩
  rw [HW] at HB HX HT a0 a1 b0 b1 r0 r1 f0 f1 g0 g1 hsz ⊢
  clear HW
  go_wp2
  refine wp_loop_rounds 3 ?_
  rw [rounds_succ]
  go_wp2
  rw [rounds_succ]
  go_wp2
  rw [rounds_succ]
  go_wp2
  have HF := ((((HT.out.other (p := ⟨w.heap.size, 0, none⟩) (by simp only; omega) (.int .u64 (z0 : Int))).other (p := ⟨w.heap.size, 1, none⟩) (by simp only; omega) (.int .u64 (z1 : Int))).set 0 (.int .u64 (z0 : Int))).set 1 (.int .u64 (z1 : Int)))
  have HL := ((((HB.out.setCell (p := ⟨w.heap.size, 0, none⟩) (Nat.le_refl _) (.int .u64 (z0 : Int))).setCell (p := ⟨w.heap.size, 1, none⟩) (Nat.le_refl _) (.int .u64 (z1 : Int))).setCell (p := ⟨w.heap.size + 2, 0, none⟩) (by simp) (.int .u64 (z0 : Int))).setCell (p := ⟨w.heap.size + 2, 1, none⟩) (by simp) (.int .u64 (z1 : Int)))
  refine bodyPost_ret (v := bv z0 z1) (results_box rfl _ (w.heap.size + 2) [.int .u64 (z0 : Int), .int .u64 (z1 : Int)] aggBits rfl rfl HF) rfl ?_
  exact ⟨z0, z1, rfl, HR.out, HL⟩
end Go.Proofs.Ythcfiobnnceomaa

/-
  impl: the sectors of a core, and how many there are.
-/
set_option maxRecDepth 100000
namespace Go.Proofs.Ythcfiobnnceomaa
open Go.ChangeShapes Go.WideShapes Go.ChangeAt Go.RowKit Go.Proofs.Palim

set_option maxHeartbeats 4000000 in
theorem rstored_any (v : Value) (ls : List EntM) (w : World) (h : Sl w 3 v ls.length (ecs ls)) (hv : Low w.heap.size v) (hl : ls.length ≤ 1000) :
    Calls Try.prog 45 #[v] w fun e w' => ∃ x0 x1, e = .returned (bv x0 x1) ∧ BitsR x0 x1 (storedB ls) ∧ Below w.heap.size w w' := by
  obtain ⟨n, HL⟩ : ∃ n, Hid (ls.length = n) := ⟨_, Lib.hid rfl⟩
  rw [HL.out] at h hl
  obtain ⟨X1, X2, hsz, hB⟩ := box2 w #[.int .u64 0, .int .u64 0] #[.int .u64 0, .int .u64 0] 56 56
  have X1 := Lib.hid X1
  have X2 := Lib.hid X2
  have B0 := Lib.hid hB
  have HS := Lib.hid h
  have HV := Lib.hid hv
  clear hB
  obtain ⟨_, A, c, rfl, _, hcm, _⟩ := h
  unfold maxLen at hcm
  clear hv
  go_enter Try.func45, Try.ntmps45
  go_wp2
  generalize (w.alloc (.cells #[.int .u64 0, .int .u64 0] 56)).alloc (.cells #[.int .u64 0, .int .u64 0] 56) = W at X1 X2 B0 hsz ⊢
  go_loopw [5, 8] (fun _ i wr => ∃ (k x0 x1 : Nat), k ≤ n ∧ i = .int .i64 k ∧ Hid (Box wr w.heap.size [.int .u64 0, .int .u64 0]) ∧ Hid (Box wr (w.heap.size + 1) [.int .u64 (x0 : Int), .int .u64 (x1 : Int)]) ∧ Hid (BitsR x0 x1 (storedB (ls.take k))) ∧ Hid (Below w.heap.size w wr)) (fun _ i _ => n - (RowKit.intOf i).toNat)
  case atStart => exact ⟨0, 0, 0, Nat.zero_le _, rfl, X1, X2, Lib.hid bits_zero, B0⟩
  case round =>
    clear X1 X2 B0 hsz
    obtain ⟨k, x0, x1, hk, rfl, HX1, HX2, HR, HB⟩ := hrel
    by_cases hlt : k < n
    case pos =>
      have hl0 : k < ls.length := by rw [HL.out]; exact hlt
      obtain ⟨b, off, c', hvv, _, _, hcell⟩ := (HS.out.below HB.out HV.out).form (by omega)
      injection hvv with e1 e2 e3
      subst e1 e3
      clear e2
      obtain ⟨g0, g1, g2⟩ := ent_read hcell k hl0
      have hk1 : (k : Int) < (n : Int) := by omega
      have HSN := Lib.hid (stored_snoc hl0)
      generalize ls[k] = y at g0 g1 g2 HSN
      have hn1 := Below.new1 (w := wr) (.cells #[.int .i64 y.sum, .int .i64 y.at_, .int .i64 y.count] 85)
      have Y1 := Lib.hid (HX1.out.below hn1 HX1.out.lt)
      have Y2 := Lib.hid (HX2.out.below hn1 HX2.out.lt)
      have HB1 := Lib.hid (HB.out.trans (hn1.mono HB.out.size))
      clear hcell hn1 HX1 HX2 HB hl0
      go_wp2_with fail
      refine (badd_any (w.heap.size + 1) x0 x1 _ y.at_ _ Y2.out HR.out).mono ?_
      rintro e w2 ⟨rfl, y0, y1, hbits, hbox, ht⟩
      rw [HSN.out] at hbits
      have HR2 := Lib.hid hbits
      have Z1 := Lib.hid (Y1.out.turned ht (by simp))
      have Z2 := Lib.hid hbox
      have HB2 := Lib.hid (HB1.out.trans (ht.below (fun q hq _ h => by omega) HB1.out.size))
      clear hbits hbox ht Y1 Y2 HB1 HR
      go_wp2
      go_roundw
      case rel => exact ⟨k + 1, y0, y1, by omega, by go_num, Z1, Z2, HR2, HB2⟩
      case measure => simp [RowKit.intOf]; omega
    case neg =>
      have HT := Lib.hid (show ls.take k = ls from List.take_of_length_le (by rw [HL.out]; omega))
      obtain ⟨c0, c1⟩ := HX2.out.two
      obtain ⟨d0, d1⟩ := HX1.out.two
      have f0 := HX1.out.open_ 0
      have f1 := HX1.out.open_ 1
      have HF := (HX1.out.set 0 (.int .u64 (x0 : Int))).set 1 (.int .u64 (x1 : Int))
      have HL2 := (HB.out.setCell (p := ⟨w.heap.size, 0, none⟩) (Nat.le_refl _) (.int .u64 (x0 : Int))).setCell (p := ⟨w.heap.size, 1, none⟩) (Nat.le_refl _) (.int .u64 (x1 : Int))
      go_wp2
      refine bodyPost_ret (v := bv x0 x1) (results_box rfl _ w.heap.size [.int .u64 (x0 : Int), .int .u64 (x1 : Int)] aggBits rfl rfl HF) rfl ?_
      exact ⟨x0, x1, rfl, by have := HR.out; rw [HT.out] at this; exact this, HL2⟩
theorem aggSplit : Agg Try.prog 58 6 := ⟨Try.isAgg58, Try.sizeOf58⟩
/-- What roomOf answers: six words, three sets. -/
structure SplitR (c : CoreM) (n : Int) (a0 a1 b0 b1 f0 f1 : Nat) : Prop where
  s : BitsR a0 a1 (fun i => decide (RoomOk c n) && partS c n i)
  o : BitsR b0 b1 (fun i => decide (RoomOk c n) && partO c n i)
  f : BitsR f0 f1 (fun i => decide (RoomOk c n) && partF c n i)
abbrev sv (a0 a1 b0 b1 f0 f1 : Nat) : List Value := [.int .u64 (a0 : Int), .int .u64 (a1 : Int), .int .u64 (b0 : Int), .int .u64 (b1 : Int), .int .u64 (f0 : Int), .int .u64 (f1 : Int)]

structure Four (w0 w : World) (H K R x0 x1 y0 y1 t0 t1 : Nat) : Prop where
  a : Box w H [.int .u64 (x0 : Int), .int .u64 (x1 : Int)]
  b : Box w (H + 1) [.int .u64 (y0 : Int), .int .u64 (y1 : Int)]
  c : Box w K [.int .u64 (t0 : Int), .int .u64 (t1 : Int)]
  d : Box w R [.int .u64 0, .int .u64 0, .int .u64 0, .int .u64 0, .int .u64 0, .int .u64 0]
  e : Below w0.heap.size w0 w
theorem Four.below {w0 w w' : World} {H K R x0 x1 y0 y1 t0 t1 : Nat} (h : Four w0 w H K R x0 x1 y0 y1 t0 t1) (hb : Below w.heap.size w w') : Four w0 w' H K R x0 x1 y0 y1 t0 t1 := ⟨h.a.below hb h.a.lt, h.b.below hb h.b.lt, h.c.below hb h.c.lt, h.d.below hb h.d.lt, h.e.trans (hb.mono h.e.size)⟩

set_option maxHeartbeats 8000000 in
theorem roomOf_any (vs vd vp vi : Value) (c : CoreM) (n : Int) (w : World) (h : CoreR w vs vd vp vi c) (hs : CoreShort c) (hn0 : -9223372036854775808 ≤ n) :
    Calls Try.prog 24 #[cv c vs vd vp vi, .int .i64 n] w fun e w' => ∃ a0 a1 b0 b1 f0 f1, e = .returned (.agg (sv a0 a1 b0 b1 f0 f1).toArray) ∧ SplitR c n a0 a1 b0 b1 f0 f1 ∧ Below w.heap.size w w' := by
  have hnot : ∀ (x : Bool) (w : World), (Op.unary .not (.bool x)).run Try.prog w = .ok (.bool (!x)) w := fun _ _ => rfl
  have HS := Lib.hid hs
  obtain ⟨A0, k0, A1, k1, A2, k2, A3, k3, rfl, rfl, rfl, rfl⟩ := h.forms
  have HRD := Lib.hid h
  have hn1 := Below.new1 (w := w.alloc (.cells #[.int .i64 c.txg, .slice A0 c.sets.length k0, .slice A1 c.ddt.length k1, .slice A2 c.parts.length k2, .bool c.dirty, .slice A3 c.safe.length k3, .int .i64 c.logn] 35)) (.cells #[.int .u64 0, .int .u64 0, .int .u64 0, .int .u64 0, .int .u64 0, .int .u64 0] 58)
  have XC := Lib.hid ((kbox_new h 35).below hn1)
  have hb0 := Below.new1 (w := w) (.cells #[.int .i64 c.txg, .slice A0 c.sets.length k0, .slice A1 c.ddt.length k1, .slice A2 c.parts.length k2, .bool c.dirty, .slice A3 c.safe.length k3, .int .i64 c.logn] 35)
  have B := Lib.hid (hb0.trans (hn1.mono hb0.size))
  have XR := Lib.hid (show Box _ (w.heap.size + 1) [.int .u64 0, .int .u64 0, .int .u64 0, .int .u64 0, .int .u64 0, .int .u64 0] from by have := box_new (w.alloc (.cells #[.int .i64 c.txg, .slice A0 c.sets.length k0, .slice A1 c.ddt.length k1, .slice A2 c.parts.length k2, .bool c.dirty, .slice A3 c.safe.length k3, .int .i64 c.logn] 35)) #[.int .u64 0, .int .u64 0, .int .u64 0, .int .u64 0, .int .u64 0, .int .u64 0] 58; simpa using this)
  clear h hs hn1 hb0
  go_enter Try.func24, Try.ntmps24
  go_upto_region 1 with fail
  obtain ⟨W0, HWE⟩ : ∃ W0, (w.alloc (.cells #[.int .i64 c.txg, .slice A0 c.sets.length k0, .slice A1 c.ddt.length k1, .slice A2 c.parts.length k2, .bool c.dirty, .slice A3 c.safe.length k3, .int .i64 c.logn] 35)).alloc (.cells #[.int .u64 0, .int .u64 0, .int .u64 0, .int .u64 0, .int .u64 0, .int .u64 0] 58) = W0 := ⟨_, rfl⟩
  rw [HWE] at XC B XR ⊢
  clear HWE
  go_wp2_with (refine wpList_load_box rfl _ rfl aggCore rfl (kcore c (.slice A0 c.sets.length k0) (.slice A1 c.ddt.length k1) (.slice A2 c.parts.length k2) (.slice A3 c.safe.length k3)) rfl XC.out.box ?_)
  refine (implCoreOk_any _ _ _ _ c _ XC.out.reads HS.out).mono ?_
  rintro e w1 ⟨rfl, hb⟩
  have XC' := Lib.hid (XC.out.below hb)
  have XR' := Lib.hid (XR.out.below hb XR.out.lt)
  have B' := Lib.hid (B.out.trans (hb.mono B.out.size))
  clear hb XC B XR
  have XC := XC'
  have B := B'
  have XR := XR'
  clear XC' B' XR'
  by_cases hro : RoomOk c n
  case neg =>
    have HSP := Lib.hid (show SplitR c n 0 0 0 0 0 0 from by
      refine ⟨?_, ?_, ?_⟩ <;> (rw [decide_eq_false hro]; exact bits_ext bits_zero (fun i _ => by simp)))
    have hr : ¬ CoreOkM c ∨ (CoreOkM c ∧ n > 120) := by
      by_cases hc : CoreOkM c
      · right; exact ⟨hc, by have : ¬ n ≤ 120 := fun h => hro ⟨hc, h⟩; omega⟩
      · left; exact hc
    clear hro
    obtain ⟨q0, q1, q2, q3, q4, q5⟩ := And.intro (XR.out.cell 0 rfl) (And.intro (XR.out.cell 1 rfl) (And.intro (XR.out.cell 2 rfl) (And.intro (XR.out.cell 3 rfl) (And.intro (XR.out.cell 4 rfl) (XR.out.cell 5 rfl)))))
    have HPA := Lib.hid (XR.out.putAll (sv 0 0 0 0 0 0) rfl)
    have HPB := Lib.hid (putC_below B.out (w.heap.size + 1) 0 (by omega) (sv 0 0 0 0 0 0))
    rcases hr with hc | ⟨hc, hn⟩
    · rw [decide_eq_false hc]
      clear hc
      go_wp2_with (first | (refine wpList_build0 rfl rfl #[.int .u64 0, .int .u64 0, .int .u64 0, .int .u64 0, .int .u64 0, .int .u64 0] (by kernel_rfl) ?_) | (refine wpList_store_box rfl _ _ rfl rfl aggSplit rfl (sv 0 0 0 0 0 0) rfl rfl (by simp [Value.oneCell']) [.int .u64 0, .int .u64 0, .int .u64 0, .int .u64 0, .int .u64 0, .int .u64 0] XR.out rfl ?_; generalize putC w1 (w.heap.size + 1) 0 (sv 0 0 0 0 0 0) = WF at HPA HPB ⊢))
      refine bodyPost_ret (v := .agg (sv 0 0 0 0 0 0).toArray) (results_box rfl _ (w.heap.size + 1) (sv 0 0 0 0 0 0) aggSplit rfl rfl HPA.out) rfl ?_
      exact ⟨0, 0, 0, 0, 0, 0, rfl, HSP.out, HPB.out⟩
    · rw [decide_eq_true hc]
      clear hc
      go_wp2_with (first | (refine wpList_build0 rfl rfl #[.int .u64 0, .int .u64 0, .int .u64 0, .int .u64 0, .int .u64 0, .int .u64 0] (by kernel_rfl) ?_) | (refine wpList_store_box rfl _ _ rfl rfl aggSplit rfl (sv 0 0 0 0 0 0) rfl rfl (by simp [Value.oneCell']) [.int .u64 0, .int .u64 0, .int .u64 0, .int .u64 0, .int .u64 0, .int .u64 0] XR.out rfl ?_; generalize putC w1 (w.heap.size + 1) 0 (sv 0 0 0 0 0 0) = WF at HPA HPB ⊢))
      refine bodyPost_ret (v := .agg (sv 0 0 0 0 0 0).toArray) (results_box rfl _ (w.heap.size + 1) (sv 0 0 0 0 0 0) aggSplit rfl rfl HPA.out) rfl ?_
      exact ⟨0, 0, 0, 0, 0, 0, rfl, HSP.out, HPB.out⟩
  case pos =>
  have HRO := Lib.hid hro
  have hn120 : ¬ n > 120 := by have := hro.2; omega
  rw [decide_eq_true hro.1]
  clear hro
  have hcn := B.out.size
  have hxr := XR.out.lt
  have XC2 := Lib.hid XC.out.box
  clear XC
  obtain ⟨X5, X6, hsz, hB⟩ := box2 w1 #[.int .u64 0, .int .u64 0] #[.int .u64 0, .int .u64 0] 56 56
  obtain ⟨H, HH⟩ : ∃ H, w1.heap.size = H := ⟨_, rfl⟩
  have XC := Lib.hid (XC2.out.below hB (by omega))
  have XR' := Lib.hid (XR.out.below hB hxr)
  have B' := Lib.hid (B.out.trans (hB.mono B.out.size))
  rw [HH] at X5 X6 hsz hcn hxr
  have X5 := Lib.hid X5
  have X6 := Lib.hid X6
  clear hB XC2 XR B
  have XR := XR'
  have B := B'
  clear XR' B'
  go_wp2
  try rw [HH]
  obtain ⟨W1, HWE⟩ : ∃ W1, (w1.alloc (.cells #[.int .u64 0, .int .u64 0] 56)).alloc (.cells #[.int .u64 0, .int .u64 0] 56) = W1 := ⟨_, rfl⟩
  rw [HWE] at XC XR B X5 X6 hsz ⊢
  clear HWE HH
  go_loopw [7] (fun i wr => ∃ (m x0 x1 : Nat), 13 ≤ m ∧ i = .int .i64 m ∧ (m = 13 ∨ (m : Int) ≤ n) ∧ Hid (Box wr H [.int .u64 (x0 : Int), .int .u64 (x1 : Int)]) ∧ Hid (Box wr (H + 1) [.int .u64 0, .int .u64 0]) ∧ Hid (BitsR x0 x1 (thereB (m : Int))) ∧ Hid (Box wr w.heap.size (kcore c (.slice A0 c.sets.length k0) (.slice A1 c.ddt.length k1) (.slice A2 c.parts.length k2) (.slice A3 c.safe.length k3))) ∧ Hid (Box wr (w.heap.size + 1) [.int .u64 0, .int .u64 0, .int .u64 0, .int .u64 0, .int .u64 0, .int .u64 0]) ∧ Hid (Below w.heap.size w wr)) (fun i _ => 121 - (RowKit.intOf i).toNat)
  case atStart => exact ⟨13, 0, 0, Nat.le_refl _, rfl, Or.inl rfl, X5, X6, Lib.hid (bits_ext bits_zero (fun i _ => by rw [there_low (by omega)])), XC, XR, B⟩
  case round =>
    clear X5 X6 XC XR B hsz
    obtain ⟨m, x0, x1, hm13, rfl, hmn, X5, X6, HT, XC, XR, B⟩ := hrel
    by_cases hlt : (m : Int) < n
    case pos =>
      have hm120 : m < 120 := by omega
      have HSN := Lib.hid (there_snoc hm13 hm120)
      have hwr : IntKind.wrap .i64 ((m : Int) + 1) = ((m + 1 : Nat) : Int) := by rw [IntWalk.i64_in _ (by omega)]; omega
      go_wp2_with fail
      refine (badd_any H x0 x1 _ (m : Int) _ X5.out HT.out).mono ?_
      rintro e w2 ⟨rfl, y0, y1, hbits, hbox, ht⟩
      rw [HSN.out] at hbits
      have HT2 := Lib.hid hbits
      have hbl : Below H wr w2 := ht.below (fun q hq _ h => by omega) (Nat.le_of_lt X5.out.lt)
      have Y5 := Lib.hid hbox
      have Y6 := Lib.hid (X6.out.turned ht (by simp))
      have YC := Lib.hid (XC.out.below hbl (by omega))
      have YR := Lib.hid (XR.out.below hbl hxr)
      have YB := Lib.hid (B.out.trans (hbl.mono (by omega)))
      clear hbits hbox ht hbl X5 X6 XC XR B HT
      go_wp2
      go_roundw
      case rel => exact ⟨m + 1, y0, y1, by omega, by first | rfl | go_num, Or.inr (by omega), Y5, Y6, HT2, YC, YR, YB⟩
      case measure => simp [RowKit.intOf]; omega
    case neg =>
      have HTN := Lib.hid (show BitsR x0 x1 (thereB n) from by
        rcases hmn with h | h
        · refine bits_ext HT.out (fun i _ => ?_)
          rw [there_low (show ((m : Nat) : Int) ≤ 13 by omega), there_low (by omega)]
        · have e : (m : Int) = n := by omega
          rw [← e]; exact HT.out)
      have n5 := XC.out.cell 5 rfl
      have hsl := HS.out.i
      clear HT
      go_wp2
      clear n5
      go_loopw [9, 29] (fun _ i wr => ∃ (k y0 y1 : Nat), k ≤ c.safe.length ∧ i = .int .i64 k ∧ Hid (Box wr H [.int .u64 (x0 : Int), .int .u64 (x1 : Int)]) ∧ Hid (Box wr (H + 1) [.int .u64 (y0 : Int), .int .u64 (y1 : Int)]) ∧ Hid (BitsR y0 y1 (safeB (c.safe.take k))) ∧ Hid (Box wr w.heap.size (kcore c (.slice A0 c.sets.length k0) (.slice A1 c.ddt.length k1) (.slice A2 c.parts.length k2) (.slice A3 c.safe.length k3))) ∧ Hid (Box wr (w.heap.size + 1) [.int .u64 0, .int .u64 0, .int .u64 0, .int .u64 0, .int .u64 0, .int .u64 0]) ∧ Hid (Below w.heap.size w wr)) (fun _ i _ => c.safe.length - (RowKit.intOf i).toNat)
      case atStart => exact ⟨0, 0, 0, Nat.zero_le _, rfl, X5, X6, Lib.hid bits_zero, XC, XR, B⟩
      case round =>
        clear X5 X6 XC XR B
        obtain ⟨k, y0, y1, hk, rfl, X5, X6, HT, XC, XR, B⟩ := hrel
        by_cases hlk : k < c.safe.length
        case pos =>
          obtain ⟨b, off, c', hvv, _, _, hcell⟩ := (HRD.out.below B.out).i.form (by omega)
          injection hvv with e1 e2 e3
          subst e1 e3
          clear e2
          have g0 := hcell k _ (ics_at c.safe k hlk)
          have hk1 : (k : Int) < (c.safe.length : Int) := by omega
          have HSN := Lib.hid (safe_snoc hlk)
          generalize c.safe[k] = y at g0 HSN
          go_wp2_with fail
          refine (badd_any (H + 1) y0 y1 _ y _ X6.out HT.out).mono ?_
          rintro e w2 ⟨rfl, z0, z1, hbits, hbox, ht⟩
          rw [HSN.out] at hbits
          have HT2 := Lib.hid hbits
          have hbl : Below (H + 1) wr w2 := ht.below (fun q hq _ h => by omega) (Nat.le_of_lt X6.out.lt)
          have Y5 := Lib.hid (X5.out.below hbl (by omega))
          have Y6 := Lib.hid hbox
          have YC := Lib.hid (XC.out.below hbl (by omega))
          have YR := Lib.hid (XR.out.below hbl (by omega))
          have YB := Lib.hid (B.out.trans (hbl.mono (by omega)))
          clear hbits hbox ht hbl X5 X6 XC XR B HT hcell
          go_wp2
          go_roundw
          case rel => exact ⟨k + 1, z0, z1, by omega, by go_num, Y5, Y6, HT2, YC, YR, YB⟩
          case measure => simp [RowKit.intOf]; omega
        case neg =>
          have HSF := Lib.hid (show BitsR y0 y1 (safeB c.safe) from by have := HT.out; rwa [List.take_of_length_le (by omega)] at this)
          have n2 := XC.out.cell 2 rfl
          have hkn : ¬ (k : Int) < (c.safe.length : Int) := by omega
          have hd48 : c.ddt.length ≤ 1000 := by have := HRO.out.1.2.1.1; omega
          have h56 := X6.out.lt
          clear HT
          go_wp2_with fail
          refine (rstored_any _ c.ddt _ (HRD.out.below B.out).d (HRD.out.below B.out).ld hd48).mono ?_
          rintro e w2 ⟨t0, t1, rfl, hst, hb⟩
          have HST := Lib.hid hst
          have hn10 := Below.new1 (w := w2) (.cells #[.int .u64 (t0 : Int), .int .u64 (t1 : Int)] 56)
          have hb2 := hb.trans (hn10.mono hb.size)
          have X10 := Lib.hid (show Box _ w2.heap.size [.int .u64 (t0 : Int), .int .u64 (t1 : Int)] from box_new w2 #[.int .u64 (t0 : Int), .int .u64 (t1 : Int)] 56)
          have Y5 := Lib.hid (X5.out.below hb2 X5.out.lt)
          have Y6 := Lib.hid (X6.out.below hb2 X6.out.lt)
          have YR := Lib.hid (XR.out.below hb2 XR.out.lt)
          have YB := Lib.hid (B.out.trans (hb2.mono B.out.size))
          have hw2 := hb.size
          clear hst hb hb2 hn10 X5 X6 XR B XC n2
          go_upto_region 14 with fail
          obtain ⟨W4, HWE⟩ : ∃ W4, w2.alloc (.cells #[.int .u64 (t0 : Int), .int .u64 (t1 : Int)] 56) = W4 := ⟨_, rfl⟩
          rw [HWE] at X10 Y5 Y6 YR YB ⊢
          clear HWE
          obtain ⟨K0, HK0⟩ : ∃ K0, w2.heap.size = K0 := ⟨_, rfl⟩
          rw [HK0] at X10 hw2 ⊢
          clear HK0
          refine wp_region_held_drew (S := fun w' => Box w' H [.int .u64 (x0 : Int), .int .u64 (x1 : Int)] ∧ Box w' (H + 1) [.int .u64 (y0 : Int), .int .u64 (y1 : Int)] ∧ Box w' K0 [.int .u64 (t0 : Int), .int .u64 (t1 : Int)]) (by kernel_rfl) ⟨Y5.out, Y6.out, X10.out⟩ (fun hHeld => ?_)
          have hF0 := Lib.hid (show Four w W4.drew H K0 (w.heap.size + 1) x0 x1 y0 y1 t0 t1 from ⟨Y5.out.drew, Y6.out.drew, X10.out.drew, YR.out.drew, YB.out.drew⟩)
          clear YB YR X10 Y5 Y6
          refine wpAnyH_take (i := 0) (v := (bv x0 x1)) rfl (by kernel_rfl) (by kernel_rfl) (by kernel_rfl) (fun _ _ _ h => h) (Or.inl ⟨by first | kernel_rfl | rfl, fun w' hSw => exec_load_cs _ rfl aggBits rfl [.int .u64 (x0 : Int), .int .u64 (x1 : Int)] rfl hSw.1.cells⟩) (by assumption) ?_
          try simp only [Act.put]
          refine wpAnyH_take (i := 1) (v := (bv t0 t1)) rfl (by kernel_rfl) (by kernel_rfl) (by kernel_rfl) (fun _ _ _ h => h) (Or.inl ⟨by first | kernel_rfl | rfl, fun w' hSw => exec_load_cs _ rfl aggBits rfl [.int .u64 (t0 : Int), .int .u64 (t1 : Int)] rfl hSw.2.2.cells⟩) (by assumption) ?_
          try simp only [Act.put]
          refine wpAnyH_take (i := 3) (v := (bv x0 x1)) rfl (by kernel_rfl) (by kernel_rfl) (by kernel_rfl) (fun _ _ _ h => h) (Or.inl ⟨by first | kernel_rfl | rfl, fun w' hSw => exec_load_cs _ rfl aggBits rfl [.int .u64 (x0 : Int), .int .u64 (x1 : Int)] rfl hSw.1.cells⟩) (by assumption) ?_
          try simp only [Act.put]
          refine wpAnyH_take (i := 4) (v := (bv y0 y1)) rfl (by kernel_rfl) (by kernel_rfl) (by kernel_rfl) (fun _ _ _ h => h) (Or.inl ⟨by first | kernel_rfl | rfl, fun w' hSw => exec_load_cs _ rfl aggBits rfl [.int .u64 (y0 : Int), .int .u64 (y1 : Int)] rfl hSw.2.1.cells⟩) (by assumption) ?_
          try simp only [Act.put]
          refine wpAnyH_take (i := 6) (v := (bv t0 t1)) rfl (by kernel_rfl) (by kernel_rfl) (by kernel_rfl) (fun _ _ _ h => h) (Or.inl ⟨by first | kernel_rfl | rfl, fun w' hSw => exec_load_cs _ rfl aggBits rfl [.int .u64 (t0 : Int), .int .u64 (t1 : Int)] rfl hSw.2.2.cells⟩) (by assumption) ?_
          try simp only [Act.put]
          refine wpAnyH_take (i := 8) (v := (bv x0 x1)) rfl (by kernel_rfl) (by kernel_rfl) (by kernel_rfl) (fun _ _ _ h => h) (Or.inl ⟨by first | kernel_rfl | rfl, fun w' hSw => exec_load_cs _ rfl aggBits rfl [.int .u64 (x0 : Int), .int .u64 (x1 : Int)] rfl hSw.1.cells⟩) (by assumption) ?_
          try simp only [Act.put]
          refine wpAnyH_take (i := 9) (v := (bv t0 t1)) rfl (by kernel_rfl) (by kernel_rfl) (by kernel_rfl) (fun _ _ _ h => h) (Or.inl ⟨by first | kernel_rfl | rfl, fun w' hSw => exec_load_cs _ rfl aggBits rfl [.int .u64 (t0 : Int), .int .u64 (t1 : Int)] rfl hSw.2.2.cells⟩) (by assumption) ?_
          try simp only [Act.put]
          refine wpAnyH_take (i := 11) (v := (bv y0 y1)) rfl (by kernel_rfl) (by kernel_rfl) (by kernel_rfl) (fun _ _ _ h => h) (Or.inl ⟨by first | kernel_rfl | rfl, fun w' hSw => exec_load_cs _ rfl aggBits rfl [.int .u64 (y0 : Int), .int .u64 (y1 : Int)] rfl hSw.2.1.cells⟩) (by assumption) ?_
          try simp only [Act.put]
          refine wpAnyH_ready (rs := [2]) (by kernel_rfl) (by simp) ?_
          refine AllReadyH.cons rfl (fun K hK => ?_) AllReadyH.nil
          go_simp
          go_at_call 46
          refine (bwith_any _ _ _ _ _ _ HTN.out HST.out W4.drew).mono ?_
          rintro e w5 ⟨p0, p1, rfl, hp, hb5⟩
          go_wp2_with fail
          have hF1 := Lib.hid (hF0.out.below hb5)
          refine hK.out _ _ ⟨hF1.out.a, hF1.out.b, hF1.out.c⟩ (fun hHeldp => ?_)
          clear hK K hF0 hb5
          try simp only [Act.put]
          refine wpAnyH_ready (rs := [5]) (by kernel_rfl) (by simp) ?_
          refine AllReadyH.cons rfl (fun K hK => ?_) AllReadyH.nil
          go_simp
          go_at_call 46
          refine (bwith_any _ _ _ _ _ _ HTN.out HSF.out _).mono ?_
          rintro e w6 ⟨q0, q1, rfl, hq, hb6⟩
          go_wp2_with fail
          have hF2 := Lib.hid (hF1.out.below hb6)
          refine hK.out _ _ ⟨hF2.out.a, hF2.out.b, hF2.out.c⟩ (fun hHeldq => ?_)
          clear hK K hF1 hb6
          try simp only [Act.put]
          refine wpAnyH_ready (rs := [7]) (by kernel_rfl) (by simp) ?_
          refine AllReadyH.cons rfl (fun K hK => ?_) AllReadyH.nil
          go_simp
          go_at_call 47
          refine (bwout_any _ _ _ _ _ _ hq HST.out _).mono ?_
          rintro e w7 ⟨r0, r1, rfl, hr, hb7⟩
          go_wp2_with fail
          have hF3 := Lib.hid (hF2.out.below hb7)
          refine hK.out _ _ ⟨hF3.out.a, hF3.out.b, hF3.out.c⟩ (fun hHeldr => ?_)
          clear hK K hF2 hb7
          try simp only [Act.put]
          refine wpAnyH_ready (rs := [10]) (by kernel_rfl) (by simp) ?_
          refine AllReadyH.cons rfl (fun K hK => ?_) AllReadyH.nil
          go_simp
          go_at_call 47
          refine (bwout_any _ _ _ _ _ _ HTN.out HST.out _).mono ?_
          rintro e w8 ⟨u0, u1, rfl, hu, hb8⟩
          go_wp2_with fail
          have hF4 := Lib.hid (hF3.out.below hb8)
          refine hK.out _ _ ⟨hF4.out.a, hF4.out.b, hF4.out.c⟩ (fun hHeldu => ?_)
          clear hK K hF3 hb8
          try simp only [Act.put]
          refine wpAnyH_ready (rs := [12]) (by kernel_rfl) (by simp) ?_
          refine AllReadyH.cons rfl (fun K hK => ?_) AllReadyH.nil
          go_simp
          go_at_call 47
          refine (bwout_any _ _ _ _ _ _ hu HSF.out _).mono ?_
          rintro e w9 ⟨v0, v1, rfl, hv, hb9⟩
          go_wp2_with fail
          have hF5 := Lib.hid (hF4.out.below hb9)
          refine hK.out _ _ ⟨hF5.out.a, hF5.out.b, hF5.out.c⟩ (fun hHeldv => ?_)
          clear hK K hF4 hb9
          try simp only [Act.put]
          refine wpAnyH_take (i := 13) (v := (.agg (sv p0 p1 r0 r1 v0 v1).toArray)) rfl (by kernel_rfl) (by kernel_rfl) (by kernel_rfl) (fun _ _ _ h => h) (Or.inl ⟨by first | kernel_rfl | rfl, fun w' hSw => by first | kernel_rfl | rfl | (clear hSw; go_simp; try with_reducible rfl)⟩) (by assumption) ?_
          try simp only [Act.put]
          refine wpAnyH_ready (rs := [14]) (by kernel_rfl) (by simp) ?_
          refine AllReadyH.cons rfl (fun K hK => ?_) AllReadyH.nil
          refine Eq.mpr (if_pos (by rfl)) ?_
          refine wp_store_cs (off := 0) _ _ rfl rfl aggSplit rfl (sv p0 p1 r0 r1 v0 v1) rfl rfl (by simp [Value.oneCell']) (hF5.out.d.may 0 6 (by simp)) ?_
          have ht := putC_turned (turned_of_below (S := fun q => q = w.heap.size + 1) (Below.refl _ w9)) (w.heap.size + 1) 0 rfl (sv p0 p1 r0 r1 v0 v1)
          have hHw : w.heap.size + 1 < H := by omega
          have hKw : w.heap.size + 1 < K0 := by omega
          have HPA := Lib.hid (hF5.out.d.putAll (sv p0 p1 r0 r1 v0 v1) rfl)
          have HPB := Lib.hid (putC_below hF5.out.e (w.heap.size + 1) 0 (by omega) (sv p0 p1 r0 r1 v0 v1))
          refine hK.out _ _ ⟨hF5.out.a.turned ht (by first | omega | (simp; omega)), hF5.out.b.turned ht (by first | omega | (simp; omega)), hF5.out.c.turned ht (by first | omega | (simp; omega))⟩ (fun hHeldz => ?_)
          clear hK K ht
          try simp only [Act.put]
          refine wpAnyH_done (by kernel_rfl) ?_ _
          go_simp
          clear hHeld hHeldp hHeldq hHeldr hHeldu hHeldv hHeldz
          have HSP := Lib.hid (show SplitR c n p0 p1 r0 r1 v0 v1 from ⟨bits_ext hp (fun i _ => by rw [decide_eq_true HRO.out, Bool.true_and]; rfl), bits_ext hr (fun i _ => by rw [decide_eq_true HRO.out, Bool.true_and]; rfl), bits_ext hv (fun i _ => by rw [decide_eq_true HRO.out, Bool.true_and]; rfl)⟩)
          clear hp hq hr hu hv hF5
          generalize putC w9 (w.heap.size + 1) 0 (sv p0 p1 r0 r1 v0 v1) = WF at HPA HPB ⊢
          go_wp2
          refine bodyPost_ret (v := .agg (sv p0 p1 r0 r1 v0 v1).toArray) (results_box rfl _ (w.heap.size + 1) (sv p0 p1 r0 r1 v0 v1) aggSplit rfl rfl HPA.out) rfl ?_
          exact ⟨p0, p1, r0, r1, v0, v1, rfl, HSP.out, HPB.out⟩
end Go.Proofs.Ythcfiobnnceomaa

/-
  impl.RoomSums and impl.RoomMay.
-/
set_option maxRecDepth 100000
namespace Go.Proofs.Ythcfiobnnceomaa
open Go.ChangeShapes Go.WideShapes Go.ChangeAt Go.RowKit Go.Proofs.Palim

theorem bcount_is (x0 x1 s : Nat) (P : Nat → Bool) (h : BitsR x0 x1 P) (hs : cntB P 128 = s) (w : World) :
    Calls Try.prog 25 #[.agg #[.int .u64 (x0 : Int), .int .u64 (x1 : Int)]] w fun e w' => e = .returned (.int .i64 (s : Int)) ∧ Below w.heap.size w w' := by
  have e : ones 64 x0 + ones 64 x1 = s := (bits_count h).trans hs
  rw [← e]
  exact bcount_any x0 x1 h.l0 h.l1 w
theorem roomOf_is (vs vd vp vi : Value) (c : CoreM) (n : Int) (w : World) (h : CoreR w vs vd vp vi c) (hs : CoreShort c) (hn0 : -9223372036854775808 ≤ n) :
    Calls Try.prog 24 #[cv c vs vd vp vi, .int .i64 n] w fun e w' => ∃ a0 a1 b0 b1 f0 f1 : Nat, e = .returned (.agg #[.int .u64 (a0 : Int), .int .u64 (a1 : Int), .int .u64 (b0 : Int), .int .u64 (b1 : Int), .int .u64 (f0 : Int), .int .u64 (f1 : Int)]) ∧ SplitR c n a0 a1 b0 b1 f0 f1 ∧ Below w.heap.size w w' := roomOf_any vs vd vp vi c n w h hs hn0
theorem field2 (a0 a1 b0 b1 f0 f1 : Value) (w : World) : (Instr.field 58 (.agg #[a0, a1, b0, b1, f0, f1]) 2).run Try.prog w = .ok (.agg #[f0, f1]) w := by kernel_rfl
end Go.Proofs.Ythcfiobnnceomaa

/-
  An int that is one is not below the least.
-/
set_option maxRecDepth 100000
namespace Go.Proofs.Ythcfiobnnceomaa
open Go Go.Proofs.Palim
theorem wf_lo {a : Int} (h : (Lit.int .i64 a).wf = true) : -9223372036854775808 ≤ a := by
  simp only [Lit.wf] at h
  have e1 : IntKind.min .i64 = -9223372036854775808 := by decide
  have e2 : IntKind.max .i64 = 9223372036854775807 := by decide
  rw [e1, e2] at h
  simp only [Bool.and_eq_true, decide_eq_true_eq] at h
  omega
end Go.Proofs.Ythcfiobnnceomaa
