/-
  Texts joined into one: the draws of disks, and what they want.
-/
import Derived.WalkKit
import Derived.Test.YtfcfgdpelbljnaaGreatDoorRows
import Derived.Test.YtfcfgdpelbljnaaGreatDoorBase
import Derived.ProofKit
import Derived.Lib.Hide
import Derived.WalkSpells
import Derived.Deep.RegionHeld3
import Derived.Deep.AppendLies
import Derived.Defers
import Derived.Recover
import Derived.Laws.Rows
import Derived.WalkSmall

/-
  Hexadecimals as plain lists of bytes: digits, pairs, and what a text of digits tells.
-/
set_option maxRecDepth 100000
namespace Go.Proofs.Palim
open Go

def hexDs : List UInt8 := [48, 49, 50, 51, 52, 53, 54, 55, 56, 57, 97, 98, 99, 100, 101, 102]
def hexD (n : Nat) : UInt8 := hexDs.getD n 0
def hexOf (l : List UInt8) : List UInt8 := l.flatMap fun c => [hexD (c.toNat / 16), hexD (c.toNat % 16)]
theorem hexOf_snoc (l : List UInt8) (c : UInt8) : hexOf (l ++ [c]) = hexOf l ++ [hexD (c.toNat / 16), hexD (c.toNat % 16)] := by simp [hexOf]
theorem and15 (c : UInt8) : bits .and .u8 (c.toNat : Int) 15 = ((c.toNat % 16 : Nat) : Int) := by
  have h : ∀ n, n < 256 → bits .and .u8 ((n : Nat) : Int) 15 = ((n % 16 : Nat) : Int) := by decide +kernel
  exact h _ c.toNat_lt
theorem hexStr (n : Nat) (h : n < 16) (h' : n < (ByteArray.mk #[48, 49, 50, 51, 52, 53, 54, 55, 56, 57, 97, 98, 99, 100, 101, 102]).size) : (ByteArray.mk #[48, 49, 50, 51, 52, 53, 54, 55, 56, 57, 97, 98, 99, 100, 101, 102])[n] = hexD n := by
  revert h'
  revert n
  decide +kernel

theorem hexD_inj : ∀ a, a < 16 → ∀ b, b < 16 → hexD a = hexD b → a = b := by decide +kernel

/-- The value of a digit. -/
def nib (c : UInt8) : Option Nat := (List.range 16).find? fun v => hexD v == c
theorem nib_some {c : UInt8} {v : Nat} (h : nib c = some v) : v < 16 ∧ hexD v = c := by
  have h1 := List.find?_some h
  have h2 := List.mem_of_find?_eq_some h
  exact ⟨by simpa using h2, by simpa using h1⟩
theorem nib_none {c : UInt8} (h : nib c = none) : ∀ v, v < 16 → hexD v ≠ c := by
  intro v hv e
  have := List.find?_eq_none.1 h v (by simpa using hv)
  simp [e] at this
theorem nib_hexD {v : Nat} (h : v < 16) : nib (hexD v) = some v := by
  revert v; decide +kernel

/-- The bytes that a text of digits tells, if it tells any. -/
def unhex : List UInt8 → Option (List UInt8)
  | [] => some []
  | [_] => none
  | a :: b :: r => (nib a).bind fun p => (nib b).bind fun q => (unhex r).map fun t => UInt8.ofNat (p * 16 + q) :: t

theorem unhex_even : ∀ {l : List UInt8} {out : List UInt8}, unhex l = some out → l.length = 2 * out.length
  | [], _, h => by simp [unhex] at h; subst h; rfl
  | [_], _, h => by simp [unhex] at h
  | a :: b :: r, out, h => by
    simp only [unhex, Option.bind_eq_some_iff, Option.map_eq_some_iff] at h
    obtain ⟨p, _, q, _, t, ht, rfl⟩ := h
    have := unhex_even ht
    simp; omega
theorem unhex_app : ∀ {x : List UInt8} {out : List UInt8} (y : List UInt8), unhex x = some out → unhex (x ++ y) = (unhex y).map (out ++ ·)
  | [], _, y, h => by simp [unhex] at h; subst h; simp
  | [_], _, _, h => by simp [unhex] at h
  | a :: b :: r, out, y, h => by
    simp only [unhex, Option.bind_eq_some_iff, Option.map_eq_some_iff] at h
    obtain ⟨p, hp, q, hq, t, ht, rfl⟩ := h
    simp only [List.cons_append, unhex, hp, hq, Option.bind_some, unhex_app y ht]
    cases unhex y <;> simp
theorem unhex_pair (a b : UInt8) : unhex [a, b] = (nib a).bind fun p => (nib b).bind fun q => some [UInt8.ofNat (p * 16 + q)] := by
  simp [unhex]
theorem unhex_snoc {x out : List UInt8} {a b : UInt8} {p q : Nat} (h : unhex x = some out) (ha : nib a = some p) (hb : nib b = some q) : unhex (x ++ [a, b]) = some (out ++ [UInt8.ofNat (p * 16 + q)]) := by
  rw [unhex_app _ h, unhex_pair, ha, hb]; rfl
theorem unhex_bad1 {x out r : List UInt8} {a b : UInt8} (h : unhex x = some out) (ha : nib a = none) : unhex (x ++ a :: b :: r) = none := by
  rw [unhex_app _ h, unhex, ha]; rfl
theorem unhex_bad2 {x out r : List UInt8} {a b : UInt8} (h : unhex x = some out) (hb : nib b = none) : unhex (x ++ a :: b :: r) = none := by
  rw [unhex_app _ h, unhex, hb]; cases nib a <;> rfl
theorem unhex_odd : ∀ {l : List UInt8}, l.length % 2 = 1 → unhex l = none := by
  intro l h
  cases e : unhex l with
  | none => rfl
  | some out => have := unhex_even e; omega
theorem unhex_hexOf : ∀ l : List UInt8, unhex (hexOf l) = some l
  | [] => rfl
  | c :: l => by
    have h := unhex_hexOf l
    have hc := c.toNat_lt
    have : hexOf (c :: l) = hexD (c.toNat / 16) :: hexD (c.toNat % 16) :: hexOf l := by simp [hexOf]
    rw [this, unhex, nib_hexD (by omega), nib_hexD (by omega), h]
    have e : c.toNat / 16 * 16 + c.toNat % 16 = c.toNat := by omega
    show some (UInt8.ofNat (c.toNat / 16 * 16 + c.toNat % 16) :: l) = some (c :: l)
    rw [e, UInt8.ofNat_toNat]
theorem split2 (s : ByteArray) (k : Nat) (h : k + 1 < s.size) : s.data.toList = s.data.toList.take k ++ s[k] :: s[k + 1] :: s.data.toList.drop (k + 2) := by
  have h1 : k < s.data.toList.length := by simpa using Nat.lt_of_succ_lt h
  have h2 : k + 1 < s.data.toList.length := by simpa using h
  conv => lhs; rw [← List.take_append_drop k s.data.toList]
  rw [List.drop_eq_getElem_cons h1, List.drop_eq_getElem_cons h2]
  rfl
theorem take_pair (s : ByteArray) (k : Nat) (h : k + 1 < s.size) : s.data.toList.take (k + 2) = s.data.toList.take k ++ [s[k], s[k + 1]] := by
  have h1 : k < s.data.toList.length := by simpa using Nat.lt_of_succ_lt h
  have h2 : k + 1 < s.data.toList.length := by simpa using h
  rw [List.take_succ_eq_append_getElem h2, List.take_succ_eq_append_getElem h1]
  simp
  exact ⟨rfl, rfl⟩
end Go.Proofs.Palim

/-
  The two functions that write bytes in hexadecimals return the same text.
-/
set_option maxRecDepth 100000
namespace Go.Proofs.YtfcfgdpelbljnaaGreatDoor
open Go.ChangeShapes Go.WideShapes Go.ChangeAt Go.RowKit Go.Proofs.Palim

theorem infoU8 : (Tryz.prog.info? 5).map (fun i => (i.zero, i.size, i.bytes)) = some (some (.int .u8 0), 1, 1) := by kernel_rfl

end Go.Proofs.YtfcfgdpelbljnaaGreatDoor

/-
  The two functions that read bytes in hexadecimals.
-/
set_option maxRecDepth 100000
namespace Go.Proofs.YtfcfgdpelbljnaaGreatDoor
open Go.ChangeShapes Go.WideShapes Go.ChangeAt Go.RowKit Go.Proofs.Palim

theorem all16 (P : Nat → Prop) (h0 : P 0) (h1 : P 1) (h2 : P 2) (h3 : P 3) (h4 : P 4) (h5 : P 5) (h6 : P 6) (h7 : P 7) (h8 : P 8) (h9 : P 9) (h10 : P 10) (h11 : P 11) (h12 : P 12) (h13 : P 13) (h14 : P 14) (h15 : P 15) : ∀ k, k < 16 → P k
  | 0, _ => h0 | 1, _ => h1 | 2, _ => h2 | 3, _ => h3 | 4, _ => h4 | 5, _ => h5 | 6, _ => h6 | 7, _ => h7 | 8, _ => h8 | 9, _ => h9 | 10, _ => h10 | 11, _ => h11 | 12, _ => h12 | 13, _ => h13 | 14, _ => h14 | 15, _ => h15
  | _ + 16, h => absurd h (by omega)

def hexCells : Array Value := #[.int .u8 48, .int .u8 49, .int .u8 50, .int .u8 51, .int .u8 52, .int .u8 53, .int .u8 54, .int .u8 55, .int .u8 56, .int .u8 57, .int .u8 97, .int .u8 98, .int .u8 99, .int .u8 100, .int .u8 101, .int .u8 102]
theorem u8_ne {a b : UInt8} (h : a ≠ b) : (((a.toNat : Int) == (b.toNat : Int)) = false) := by
  simp only [beq_eq_false_iff_ne, ne_eq]
  intro e
  exact h (UInt8.toNat_inj.1 (by omega))

/-- What the readers of digits panic with. -/
def malformed : List PanicEntry := [{ v := .iface 9 (.string ⟨#[109, 97, 108, 102, 111, 114, 109, 101, 100, 32, 116, 101, 120, 116]⟩), recovered := false }]

end Go.Proofs.YtfcfgdpelbljnaaGreatDoor
