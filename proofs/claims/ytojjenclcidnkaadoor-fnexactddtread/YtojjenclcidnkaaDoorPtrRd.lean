/-
  Pointers read: what a text spells, and spec's PtrRead.
-/
import Derived.Test.YtojjenclcidnkaaDoorPtrT
import Derived.Test.YtojjenclcidnkaaDoorPtrTo
import Derived.Test.YtojjenclcidnkaaDoorPtrCut
set_option maxRecDepth 100000
namespace Go.Proofs.YtojjenclcidnkaaDoor
open Go.ChangeShapes Go.WideShapes Go.ChangeAt Go.RowKit Go.Proofs.Palim

theorem good_text {p : PtrM} (h : GoodM p) : ptrText p = ⟨(ptrL p).toArray⟩ := by
  unfold ptrText
  rw [if_neg (not_not_intro (show PtrOkM p from Or.inr h)), if_neg (fun hn => by have := h.1; have := hn.1; omega)]
theorem null_text {p : PtrM} (h : NullM p) : ptrText p = ⟨#[45]⟩ := by
  unfold ptrText
  rw [if_neg (not_not_intro (show PtrOkM p from Or.inl h)), if_pos h]
/-- A good pointer's text is three numerals between points. -/
theorem good_dd {p : PtrM} (h : GoodM p) : ∃ a b c : Nat, p = ⟨(a : Int), (b : Int), (c : Int)⟩ ∧ a < 100000000 ∧ b < 100000000 ∧ c < 100000000 ∧ ptrL p = Lib.decDigits a ++ 46 :: (Lib.decDigits b ++ 46 :: Lib.decDigits c) := by
  obtain ⟨x, y, z⟩ := p
  obtain ⟨h1, h2, h3, h4, h5, h6⟩ := h
  simp only at h1 h2 h3 h4 h5 h6
  obtain ⟨a, rfl⟩ : ∃ a : Nat, x = a := ⟨x.toNat, by omega⟩
  obtain ⟨b, rfl⟩ : ∃ b : Nat, y = b := ⟨y.toNat, by omega⟩
  obtain ⟨c, rfl⟩ : ∃ c : Nat, z = c := ⟨z.toNat, by omega⟩
  exact ⟨a, b, c, rfl, by omega, by omega, by omega, by simp only [ptrL, Lib.itoa_nonneg]⟩
/-- The three numbers of a text, as the library reads them. -/
def parseL (l : List UInt8) : Option PtrM :=
  match Lib.atoiAll (Lib.cut l [46]).1, Lib.atoiAll (Lib.cut (Lib.cut l [46]).2.1 [46]).1, Lib.atoiAll (Lib.cut (Lib.cut l [46]).2.1 [46]).2.1 with
  | .ok x, .ok y, .ok z => some ⟨x, y, z⟩
  | _, _, _ => none
theorem parse_good {p : PtrM} (h : GoodM p) : parseL (ptrL p) = some p := by
  obtain ⟨a, b, c, rfl, ha, hb, hc, e⟩ := good_dd h
  rw [e]
  unfold parseL
  rw [cut_at _ _ (dd_point a)]
  simp only
  rw [cut_at _ _ (dd_point b)]
  simp only
  rw [atoi_digs a (by omega), atoi_digs b (by omega), atoi_digs c (by omega)]
theorem pieces_good (a b c : Nat) : pieces (Lib.decDigits a ++ 46 :: (Lib.decDigits b ++ 46 :: Lib.decDigits c)) = [Lib.decDigits a, Lib.decDigits b, Lib.decDigits c] := by
  rw [pieces_cut _ _ (dd_point a), pieces_cut _ _ (dd_point b), pieces_one _ (dd_point c)]
theorem text_inj {p q : PtrM} (hp : PtrOkM p) (hq : PtrOkM q) (h : ptrText p = ptrText q) : p = q := by
  rcases hp with hp | hp <;> rcases hq with hq | hq
  · obtain ⟨a, b, c⟩ := p
    obtain ⟨x, y, z⟩ := q
    obtain ⟨h1, h2, h3⟩ := hp
    obtain ⟨h4, h5, h6⟩ := hq
    simp only at h1 h2 h3 h4 h5 h6
    subst h1 h2 h3 h4 h5 h6
    rfl
  · exfalso
    rw [null_text hp, good_text hq] at h
    have h2 := congrArg (fun b : ByteArray => b.data.toList) h
    have h3 := parse_good hq
    simp only at h2
    rw [← h2] at h3
    have h4 : parseL [45] = none := by decide +kernel
    rw [h4] at h3
    cases h3
  · exfalso
    rw [null_text hq, good_text hp] at h
    have h2 := congrArg (fun b : ByteArray => b.data.toList) h
    have h3 := parse_good hp
    simp only at h2
    rw [h2] at h3
    have h4 : parseL [45] = none := by decide +kernel
    rw [h4] at h3
    cases h3
  · rw [good_text hp, good_text hq] at h
    have h2 := congrArg (fun b : ByteArray => b.data.toList) h
    simp only at h2
    have h3 := parse_good hp
    rw [h2, parse_good hq] at h3
    exact (Option.some.inj h3).symm
open Classical in
/-- The pointer that a text spells. -/
noncomputable def readM (t : ByteArray) : Option PtrM := if h : ∃ p, PtrOkM p ∧ ptrText p = t then some (Classical.choose h) else none
theorem readM_some {p : PtrM} {t : ByteArray} (h : PtrOkM p) (ht : ptrText p = t) : readM t = some p := by
  have hx : ∃ p, PtrOkM p ∧ ptrText p = t := ⟨p, h, ht⟩
  unfold readM
  rw [dif_pos hx]
  have hc := Classical.choose_spec hx
  rw [text_inj hc.1 h (hc.2.trans ht.symm)]
/-- No pointer: none that is good has this text, and it is not the null pointer's. -/
theorem readM_none {t : ByteArray} (hn : t ≠ ⟨#[45]⟩) (h : ∀ p, GoodM p → t.data.toList ≠ ptrL p) : readM t = none := by
  unfold readM
  rw [dif_neg]
  rintro ⟨p, hp | hp, ht⟩
  · exact hn (ht.symm.trans (null_text hp))
  · refine h p hp ?_
    rw [← ht, good_text hp]
theorem ok_of_text {p : PtrM} {t : ByteArray} (h : ptrText p = t) (hz : t.size ≠ 0) : PtrOkM p := by
  by_cases hk : PtrOkM p
  · exact hk
  · unfold ptrText at h
    rw [if_pos hk] at h
    exact absurd (by rw [← h]; rfl) hz

def ReadPost (t : ByteArray) (w : World) (e : Ending) (w' : World) : Prop :=
  Below w.heap.size w w' ∧ ((∃ p, readM t = some p ∧ e = .returned (.tuple #[pv p, .bool true])) ∨ (readM t = none ∧ e = .returned (.tuple #[pv noPtr, .bool false])))
theorem readM_dash : readM ⟨#[45]⟩ = some noPtr := readM_some (p := noPtr) (Or.inl ⟨rfl, rfl, rfl⟩) (null_text ⟨rfl, rfl, rfl⟩)
theorem low_cell {w : World} {v : Value} {n : Nat} {ps : List ByteArray} (h : Sl w 1 v n (scs ps)) (hn : 0 < n) : ∃ b off c, v = .slice (some ⟨b, off, none⟩) n c ∧ n ≤ c ∧ c ≤ maxLen ∧ ∀ j (hj : j < ps.length), w.cell? ⟨b, off + j, none⟩ = some (.string ps[j]) := by
  obtain ⟨b, off, c, hv, h1, h2, h3⟩ := h.form hn
  exact ⟨b, off, c, hv, h1, h2, fun j hj => h3 j _ (scs_at ps j hj)⟩
theorem ne_dash {t : ByteArray} (h : t ≠ ⟨#[45]⟩) : (t.toList == [45]) = false := by
  rw [ByteArray.toList_eq]
  refine beq_eq_false_iff_ne.2 fun e => h ?_
  apply ByteArray.ext
  apply Array.ext'
  exact e
theorem ne_text {a b : ByteArray} (h : a ≠ b) : (a.toList == b.toList) = false := by
  rw [ByteArray.toList_eq, ByteArray.toList_eq]
  refine beq_eq_false_iff_ne.2 fun e => h ?_
  apply ByteArray.ext
  exact Array.ext' e

end Go.Proofs.YtojjenclcidnkaaDoor
