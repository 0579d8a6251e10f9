/-
  A record of the log as plain data, and its text.
-/
import Derived.Test.YtgjlhokakcdpbaaGreatDoorBase
import Derived.Test.YtgjlhokakcdpbaaGreatDoorTexts
set_option maxRecDepth 100000
namespace Go.Proofs.YtgjlhokakcdpbaaGreatDoor
open Go.ChangeShapes Go.WideShapes Go.ChangeAt Go.RowKit Go.Proofs.Palim

structure RecM where
  txg : Int
  seq : Int
  kind : Int
  a : ByteArray
  b : ByteArray
  i : Int
  text : ByteArray
abbrev rcs (r : RecM) : List Value := [.int .i64 r.txg, .int .i64 r.seq, .int .i64 r.kind, .string r.a, .string r.b, .int .i64 r.i, .string r.text]
abbrev rv (r : RecM) : Value := .agg #[.int .i64 r.txg, .int .i64 r.seq, .int .i64 r.kind, .string r.a, .string r.b, .int .i64 r.i, .string r.text]
abbrev noB : ByteArray := ⟨#[]⟩
abbrev blB : ByteArray := ⟨#[32]⟩
abbrev dotB : ByteArray := ⟨#[46]⟩
abbrev dashB : ByteArray := ⟨#[45]⟩
abbrev decB (z : Int) : ByteArray := ⟨(Lib.itoa z).toArray⟩
abbrev hexB (s : ByteArray) : ByteArray := ⟨(hexOf s.data.toList).toArray⟩
def MarkOk (t q : Int) : Prop := 1 ≤ t ∧ t ≤ 1000000 ∧ 0 ≤ q ∧ q < 8
instance (t q : Int) : Decidable (MarkOk t q) := by unfold MarkOk; exact inferInstance
def RecOk (r : RecM) : Prop := MarkOk r.txg r.seq ∧ r.kind = 3 ∧ NameOk r.a ∧ r.b.size = 0 ∧ (0 ≤ r.i ∧ r.i < 8) ∧ r.text.size ≤ 24
instance (r : RecM) : Decidable (RecOk r) := by unfold RecOk; exact inferInstance
def markW (t q : Int) : ByteArray := if MarkOk t q then decB t ++ dotB ++ decB q else noB
def nameW (a : ByteArray) : ByteArray := if NameOk a then a else noB
def blockW (i : Int) : ByteArray := if 0 ≤ i ∧ i < 8 then decB i else noB
def hexW (s : ByteArray) : ByteArray := if s.size = 0 then dashB else hexB s
def bytesW (s : ByteArray) : ByteArray := if 24 < s.size then noB else hexW s
def logWs (r : RecM) : List ByteArray := [markW r.txg r.seq, nameW r.a, blockW r.i, bytesW r.text, markW r.txg r.seq]
def logB (r : RecM) : ByteArray := joinB (logWs r) blB
def logText (r : RecM) : ByteArray := if RecOk r then sealB (logB r) else noB

theorem hexOf_length (l : List UInt8) : (hexOf l).length = 2 * l.length := by
  induction l with
  | nil => rfl
  | cons c r ih =>
    show (([hexD (c.toNat / 16), hexD (c.toNat % 16)] : List UInt8) ++ hexOf r).length = _
    rw [List.length_append, ih]
    simp only [List.length_cons, List.length_nil]
    omega
theorem hexB_size (s : ByteArray) : (hexB s).size = 2 * s.size := by
  show (hexOf s.data.toList).toArray.size = _
  rw [List.size_toArray, hexOf_length, Array.length_toList]
  rfl
theorem itoa_pos (z : Int) (h0 : 0 ≤ z) : 0 < (Lib.itoa z).length := by
  obtain ⟨n, rfl⟩ := Int.eq_ofNat_of_zero_le h0
  show 0 < (Lib.itoa (n : Int)).length
  rw [Lib.itoa_nonneg, Lib.decDigits]
  split <;> simp
theorem decB_size (z : Int) (h0 : 0 ≤ z) (h1 : z < 9223372036854775807) : 1 ≤ (decB z).size ∧ (decB z).size ≤ 21 := by
  have l := Lib.itoa_length_le z (by omega) (by omega)
  have p := itoa_pos z h0
  show 1 ≤ (Lib.itoa z).toArray.size ∧ (Lib.itoa z).toArray.size ≤ 21
  rw [List.size_toArray]
  omega
theorem markW_ok {t q : Int} (h : MarkOk t q) : markW t q = decB t ++ dotB ++ decB q := if_pos h
theorem markW_size {t q : Int} (h : MarkOk t q) : 3 ≤ (markW t q).size ∧ (markW t q).size ≤ 43 := by
  obtain ⟨h1, h2, h3, h4⟩ := id h
  have a := decB_size t (by omega) (by omega)
  have b := decB_size q (by omega) (by omega)
  rw [markW_ok h, ByteArray.size_append, ByteArray.size_append, show dotB.size = 1 from rfl]
  omega
theorem markW_no {t q : Int} (h : ¬ MarkOk t q) : markW t q = noB := if_neg h
theorem nameW_size {a : ByteArray} (h : NameOk a) : 1 ≤ (nameW a).size ∧ (nameW a).size ≤ 6 := by
  unfold nameW
  rw [if_pos h]
  exact ⟨h.1, h.2.1⟩
theorem blockW_size {i : Int} (h : 0 ≤ i ∧ i < 8) : 1 ≤ (blockW i).size ∧ (blockW i).size ≤ 21 := by
  unfold blockW
  rw [if_pos h]
  exact decB_size i h.1 (by omega)
theorem hexW_size (s : ByteArray) : 1 ≤ (hexW s).size ∧ (hexW s).size ≤ 2 * s.size + 1 := by
  unfold hexW
  by_cases h : s.size = 0
  · rw [if_pos h]; exact ⟨Nat.le_refl 1, by show 1 ≤ _; omega⟩
  · rw [if_neg h, hexB_size]; omega
theorem bytesW_size {s : ByteArray} (h : s.size ≤ 24) : 1 ≤ (bytesW s).size ∧ (bytesW s).size ≤ 49 := by
  unfold bytesW
  rw [if_neg (by omega)]
  have := hexW_size s
  omega
theorem joinB_five (a b c d e sep : ByteArray) : joinB [a, b, c, d, e] sep = a ++ sep ++ b ++ sep ++ c ++ sep ++ d ++ sep ++ e := by
  have h2 := joinB_snoc [a] b sep
  rw [if_neg (by simp), joinB_one] at h2
  have h3 := joinB_snoc [a, b] c sep
  rw [if_neg (by simp), show joinB [a, b] sep = a ++ sep ++ b from h2] at h3
  have h4 := joinB_snoc [a, b, c] d sep
  rw [if_neg (by simp), show joinB [a, b, c] sep = a ++ sep ++ b ++ sep ++ c from h3] at h4
  have h5 := joinB_snoc [a, b, c, d] e sep
  rw [if_neg (by simp), show joinB [a, b, c, d] sep = a ++ sep ++ b ++ sep ++ c ++ sep ++ d from h4] at h5
  exact h5
/-- The words of a record are all there, and its kind and second name are right. -/
theorem rec_words (r : RecM) (hk : r.kind = 3) (hb : r.b.size = 0) : RecOk r ↔ ∀ x ∈ logWs r, x.size ≠ 0 := by
  constructor
  · rintro ⟨h1, _, h3, _, h5, h6⟩ x hx
    have m := markW_size h1
    have n := nameW_size h3
    have i := blockW_size h5
    have t := bytesW_size h6
    simp only [logWs, List.mem_cons, List.not_mem_nil, or_false] at hx
    rcases hx with rfl | rfl | rfl | rfl | rfl <;> omega
  · intro h
    simp only [logWs, List.mem_cons, List.not_mem_nil, or_false, forall_eq_or_imp, forall_eq] at h
    obtain ⟨h1, h2, h3, h4, _⟩ := h
    refine ⟨?_, hk, ?_, hb, ?_, ?_⟩
    · refine Classical.byContradiction fun c => h1 ?_
      rw [markW_no c]; rfl
    · refine Classical.byContradiction fun c => h2 ?_
      unfold nameW
      rw [if_neg c]; rfl
    · refine Classical.byContradiction fun c => h3 ?_
      unfold blockW
      rw [if_neg c]; rfl
    · refine Classical.byContradiction fun c => h4 ?_
      unfold bytesW
      rw [if_pos (by omega)]; rfl
theorem logB_size {r : RecM} (h : RecOk r) : 11 ≤ (logB r).size ∧ (logB r).size ≤ 170 := by
  obtain ⟨h1, _, h3, _, h5, h6⟩ := h
  have m := markW_size h1
  have n := nameW_size h3
  have i := blockW_size h5
  have t := bytesW_size h6
  unfold logB logWs
  rw [joinB_five]
  simp only [ByteArray.size_append]
  rw [show blB.size = 1 from rfl]
  omega
theorem log_of_ok {r : RecM} (h : RecOk r) : logText r = sealB (logB r) := if_pos h
theorem log_of_no {r : RecM} (h : ¬ RecOk r) : logText r = noB := if_neg h
theorem empty_yes {s : ByteArray} (h : s.size = 0) : (s.toList == []) = true := by
  have : s = noB := ByteArray.ext (Array.eq_empty_of_size_eq_zero h)
  rw [this, ByteArray.toList_eq]; rfl
theorem empty_no {s : ByteArray} (h : ¬ s.size = 0) : (s.toList == []) = false := by
  rw [ByteArray.toList_eq]
  cases hl : s.data.toList with
  | nil => exact absurd (show s.size = 0 from by show s.data.size = 0; rw [← Array.length_toList, hl]; rfl) h
  | cons a r => rfl
theorem sealD_is (s t : ByteArray) (w : World) (hs : s.size ≤ 1000000) (ht : sealB s = t) :
    Calls Tryz.prog 45 #[.string s] w fun e w' => e = .returned (.string t) ∧ Below w.heap.size w w' := by
  subst ht; exact specSeal_any s w (by unfold maxLen; omega)
theorem sealI_is (s t : ByteArray) (w : World) (hs : s.size ≤ 1000000) (hp : HasPow w) (ht : sealB s = t) :
    Calls Tryz.prog 38 #[.string s] w fun e w' => e = .returned (.string t) ∧ Below w.heap.size w w' := by
  subst ht; exact implSeal_any s w (by unfold maxLen; omega) hp
theorem hexD_is (s t : ByteArray) (w : World) (hs : s.size ≤ 1048576) (ht : hexB s = t) :
    Calls Tryz.prog 43 #[.string s] w fun e w' => e = .returned (.string t) ∧ Below w.heap.size w w' := by
  subst ht; exact specSumHex_any s w hs
theorem nameD_is (s : ByteArray) (w : World) (ok : Bool) (hs : s.size ≤ maxLen) (h : decide (NameOk s) = ok) :
    Calls Tryz.prog 42 #[.string s] w fun e w' => e = .returned (.bool ok) ∧ w' = w := h ▸ BookName_any s w hs
theorem nameI_is (s : ByteArray) (w : World) (ok : Bool) (hs : s.size ≤ maxLen) (h : decide (NameOk s) = ok) :
    Calls Tryz.prog 204 #[.string s] w fun e w' => e = .returned (.bool ok) ∧ w' = w := h ▸ ImplBookName_any s w hs
end Go.Proofs.YtgjlhokakcdpbaaGreatDoor
