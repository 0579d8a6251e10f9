/-
  Records read: what a text spells.
-/
import Derived.Test.YtgjlhokakcdpbaaGreatDoorLogM
import Derived.Test.YtgjlhokakcdpbaaGreatDoorSumFacts
import Derived.Test.YtgjlhokakcdpbaaGreatDoorCut32
import Derived.Test.YtgjlhokakcdpbaaGreatDoorPtrMath
set_option maxRecDepth 100000
namespace Go.Proofs.YtgjlhokakcdpbaaGreatDoor
open Go.ChangeShapes Go.WideShapes Go.ChangeAt Go.RowKit Go.Proofs.Palim

theorem log_open {r : RecM} (h : RecOk r) : openB (logText r) = some (logB r) := by
  rw [log_of_ok h]
  exact open_seal _ (by have := logB_size h; omega)
theorem dig_space (m : Nat) : (32 : UInt8) ∉ Lib.decDigits m := fun h => by
  have := dd_all m 32 h
  simp at this
theorem decB_list (m : Nat) : (decB (m : Int)).data.toList = Lib.decDigits m := by
  show ((Lib.itoa (m : Int)).toArray).toList = _
  rw [Lib.itoa_nonneg]
theorem mark_list {m q : Nat} (h : MarkOk (m : Int) (q : Int)) : (markW (m : Int) (q : Int)).data.toList = Lib.decDigits m ++ 46 :: Lib.decDigits q := by
  rw [markW_ok h]
  have e1 := decB_list m
  have e2 := decB_list q
  simp only [ByteArray.data_append, Array.toList_append] at *
  rw [e1, e2]
  simp
theorem mark_space {t q : Int} (h : MarkOk t q) : (32 : UInt8) ∉ (markW t q).data.toList := by
  obtain ⟨h1, h2, h3, h4⟩ := id h
  obtain ⟨m, rfl⟩ := Int.eq_ofNat_of_zero_le (show 0 ≤ t by omega)
  obtain ⟨k, rfl⟩ := Int.eq_ofNat_of_zero_le h3
  rw [mark_list h]
  intro c
  rcases List.mem_append.1 c with c | c
  · exact dig_space m c
  · rcases List.mem_cons.1 c with c | c
    · simp at c
    · exact dig_space k c
theorem name_space {a : ByteArray} (h : NameOk a) : (32 : UInt8) ∉ a.data.toList := fun c => by
  obtain ⟨i, hi, e⟩ := List.mem_iff_getElem.1 c
  have hi' : i < a.size := by rw [size_list]; exact hi
  have := h.2.2 i hi' hi'
  have e2 : a[i] = 32 := e
  rw [e2] at this
  simp at this
theorem hexD_space : ∀ n, n < 16 → hexD n ≠ 32 := by decide +kernel
theorem hexOf_space (l : List UInt8) : (32 : UInt8) ∉ hexOf l := fun c => by
  unfold hexOf at c
  obtain ⟨x, _, hx⟩ := List.mem_flatMap.1 c
  have h1 : x.toNat < 256 := x.toNat_lt
  simp only [List.mem_cons, List.not_mem_nil, or_false] at hx
  rcases hx with hx | hx
  · exact hexD_space _ (by omega) hx.symm
  · exact hexD_space _ (by omega) hx.symm
theorem hexW_space (s : ByteArray) : (32 : UInt8) ∉ (hexW s).data.toList := by
  unfold hexW
  by_cases h : s.size = 0
  · rw [if_pos h]; decide
  · rw [if_neg h]
    show (32 : UInt8) ∉ hexOf _
    exact hexOf_space _
theorem nameW_ok {a : ByteArray} (h : NameOk a) : nameW a = a := if_pos h
theorem blockW_ok {i : Int} (h : 0 ≤ i ∧ i < 8) : blockW i = decB i := if_pos h
theorem bytesW_ok {s : ByteArray} (h : s.size ≤ 24) : bytesW s = hexW s := if_neg (by omega)
theorem dec_space {i : Int} (h : 0 ≤ i) : (32 : UInt8) ∉ (decB i).data.toList := by
  obtain ⟨m, rfl⟩ := Int.eq_ofNat_of_zero_le h
  rw [show (decB (m : Int)).data.toList = Lib.decDigits m from decB_list m]
  exact dig_space m
theorem log_list (r : RecM) : (logB r).data.toList = (markW r.txg r.seq).data.toList ++ 32 :: ((nameW r.a).data.toList ++ 32 :: ((blockW r.i).data.toList ++ 32 :: ((bytesW r.text).data.toList ++ 32 :: (markW r.txg r.seq).data.toList))) := by
  unfold logB logWs
  rw [joinB_five]
  simp
theorem log_pieces {r : RecM} (h : RecOk r) : pieces32 (logB r).data.toList = (logWs r).map (fun b => b.data.toList) := by
  obtain ⟨h1, _, h3, _, h5, h6⟩ := h
  have n1 := mark_space h1
  have n2 : (32 : UInt8) ∉ (nameW r.a).data.toList := by rw [nameW_ok h3]; exact name_space h3
  have n3 : (32 : UInt8) ∉ (blockW r.i).data.toList := by rw [blockW_ok h5]; exact dec_space h5.1
  have n4 : (32 : UInt8) ∉ (bytesW r.text).data.toList := by rw [bytesW_ok h6]; exact hexW_space _
  rw [log_list, pieces_cut32 _ _ n1, pieces_cut32 _ _ n2, pieces_cut32 _ _ n3, pieces_cut32 _ _ n4, pieces_one32 _ n1]
  rfl
theorem lists_inj : ∀ (xs ys : List ByteArray), xs.map (fun b => b.data.toList) = ys.map (fun b => b.data.toList) → xs = ys
  | [], [], _ => rfl
  | [], _ :: _, h => by cases h
  | _ :: _, [], h => by cases h
  | x :: xs, y :: ys, h => by
    injection h with h1 h2
    rw [lists_inj xs ys h2, show x = y from ByteArray.ext (Array.ext' h1)]

/-- The text spells this record. -/
def LSpells (t : ByteArray) (r : RecM) : Prop := RecOk r ∧ logText r = t
theorem lspells_at {t s : ByteArray} {r : RecM} {ps : List ByteArray} (h : LSpells t r) (ho : openB t = some s) (hp : ps.map (fun b => b.data.toList) = pieces32 s.data.toList) : ps = logWs r := by
  obtain ⟨h1, rfl⟩ := h
  rw [log_open h1] at ho
  obtain rfl := Option.some.inj ho
  rw [log_pieces h1] at hp
  exact lists_inj _ _ hp
theorem lspells_none {t : ByteArray} (ho : openB t = none) : ∀ r, ¬ LSpells t r := fun r h => by
  have := log_open h.1
  rw [h.2, ho] at this; cases this
theorem lspells_no {t s : ByteArray} {ps : List ByteArray} (ho : openB t = some s) (hp : ps.map (fun b => b.data.toList) = pieces32 s.data.toList) (hl : ps.length ≠ 5) : ∀ r, ¬ LSpells t r := fun r h => by
  rw [lspells_at h ho hp] at hl
  exact hl rfl
theorem opened_ne {t s : ByteArray} (h : openB t = some s) : t ≠ noB := by
  rintro rfl
  have : openB noB = none := by unfold openB; exact if_pos rfl
  rw [this] at h; cases h
theorem opened_small {t s : ByteArray} (h : openB t = some s) : s.size ≤ 400 := by
  have h1 := seal_of_open h
  refine Classical.byContradiction fun hn => opened_ne h ?_
  rw [← h1]; unfold sealB; rw [if_pos (by omega)]
theorem lspells_of {t s : ByteArray} {r : RecM} (ho : openB t = some s) (h : logText r = t) : LSpells t r := by
  refine ⟨Classical.byContradiction fun hn => opened_ne ho ?_, h⟩
  rw [← h, log_of_no hn]
/-- The text that a word of hexadecimals tells. -/
def textOf (a : ByteArray) : ByteArray := if a = dashB then noB else ⟨((unhex a.data.toList).getD []).toArray⟩
theorem hexB_no_dash {s : ByteArray} (_ : ¬ s.size = 0) : hexB s ≠ dashB := fun e => by
  have := congrArg ByteArray.size e
  rw [hexB_size] at this
  have e1 : dashB.size = 1 := rfl
  omega
theorem textOf_hexW (s : ByteArray) : textOf (hexW s) = s := by
  unfold hexW
  by_cases h : s.size = 0
  · rw [if_pos h]
    unfold textOf
    rw [if_pos rfl]
    exact (ByteArray.ext (Array.eq_empty_of_size_eq_zero h)).symm
  · rw [if_neg h]
    unfold textOf
    rw [if_neg (hexB_no_dash h)]
    show (⟨((unhex (hexOf s.data.toList)).getD []).toArray⟩ : ByteArray) = s
    rw [unhex_hexOf]
    rfl
theorem unhex_hexW {s : ByteArray} (h : hexW s ≠ dashB) : unhex (hexW s).data.toList = some s.data.toList := by
  unfold hexW at h ⊢
  by_cases hs : s.size = 0
  · rw [if_pos hs] at h; exact absurd rfl h
  · rw [if_neg hs]
    show unhex (hexOf s.data.toList) = _
    exact unhex_hexOf _
/-- What the words of a record tell of it. -/
theorem rec_words_tell {r : RecM} {a0 a1 a2 a3 a4 : ByteArray} (h : RecOk r) (e : [a0, a1, a2, a3, a4] = logWs r) :
    ∃ m q k : Nat, r = ⟨(m : Int), (q : Int), 3, a1, noB, (k : Int), textOf a3⟩ ∧ m < 100000000 ∧ q < 100000000 ∧ k < 100000000 ∧ a0.data.toList = Lib.decDigits m ++ 46 :: Lib.decDigits q ∧ a2.data.toList = Lib.decDigits k ∧ a4 = a0 ∧ (a3 ≠ dashB → (unhex a3.data.toList).isSome = true) := by
  obtain ⟨h1, h2, h3, h4, h5, h6⟩ := h
  obtain ⟨t, q, kd, a, b, i, x⟩ := r
  simp only at h1 h2 h3 h4 h5 h6
  simp only [logWs, List.cons.injEq, and_true] at e
  obtain ⟨rfl, rfl, rfl, rfl, rfl⟩ := e
  obtain ⟨g1, g2, g3, g4⟩ := id h1
  obtain ⟨m, rfl⟩ := Int.eq_ofNat_of_zero_le (show 0 ≤ t by omega)
  obtain ⟨n, rfl⟩ := Int.eq_ofNat_of_zero_le g3
  obtain ⟨k, rfl⟩ := Int.eq_ofNat_of_zero_le h5.1
  refine ⟨m, n, k, ?_, by omega, by omega, by omega, mark_list h1, ?_, rfl, ?_⟩
  · rw [nameW_ok h3, bytesW_ok h6, textOf_hexW, h2, show b = noB from ByteArray.ext (Array.eq_empty_of_size_eq_zero h4)]
  · rw [blockW_ok h5]; exact decB_list k
  · rw [bytesW_ok h6]
    intro hd
    rw [unhex_hexW hd]; rfl
theorem dd_inj {a b : Nat} (h : Lib.decDigits a = Lib.decDigits b) : a = b := by
  have := congrArg (valF 0) h
  rwa [dd_val, dd_val] at this
theorem lspells_one {t : ByteArray} {r r' : RecM} (h : LSpells t r) (k : LSpells t r') : r = r' := by
  have h1 := log_open h.1
  have k1 := log_open k.1
  rw [h.2] at h1
  rw [k.2] at k1
  have e := Option.some.inj (h1.symm.trans k1)
  have e2 : logWs r = logWs r' := by
    have := congrArg (fun x : ByteArray => pieces32 x.data.toList) e
    simp only [log_pieces h.1, log_pieces k.1] at this
    exact lists_inj _ _ this
  obtain ⟨m, q, i, hr, _, _, _, hm, hi, _, _⟩ := rec_words_tell h.1 (show [markW r.txg r.seq, nameW r.a, blockW r.i, bytesW r.text, markW r.txg r.seq] = logWs r from rfl)
  obtain ⟨m', q', i', hr', _, _, _, hm', hi', _, _⟩ := rec_words_tell (a0 := markW r.txg r.seq) (a1 := nameW r.a) (a2 := blockW r.i) (a3 := bytesW r.text) (a4 := markW r.txg r.seq) k.1 (by rw [← e2]; rfl)
  rw [hr, hr']
  have hp := hm.symm.trans hm'
  have hq := congrArg pieces hp
  rw [pieces_cut _ _ (dd_point m), pieces_cut _ _ (dd_point m'), pieces_one _ (dd_point q), pieces_one _ (dd_point q')] at hq
  injection hq with q1 q2
  injection q2 with q3 _
  rw [dd_inj q1, dd_inj q3, dd_inj (hi.symm.trans hi')]
end Go.Proofs.YtgjlhokakcdpbaaGreatDoor
