/-
  The table read: what a text spells.
-/
import Derived.Test.YtojjenclcidnkaaDoorDdtT
import Derived.Test.YtojjenclcidnkaaDoorPtrRd
import Derived.Test.YtojjenclcidnkaaDoorCut32
import Derived.Test.YtojjenclcidnkaaDoorSplitIt
set_option maxRecDepth 100000
namespace Go.Proofs.YtojjenclcidnkaaDoor
open Go.ChangeShapes Go.WideShapes Go.ChangeAt Go.RowKit Go.Proofs.Palim

theorem piecesC_32 (l : List UInt8) : piecesC 32 l = pieces32 l := by
  induction l with
  | nil => rfl
  | cons b l ih =>
    unfold piecesC pieces32
    rw [ih]
    split
    · rfl
    · cases pieces32 l <;> rfl
/-- An entry as a text tells it. -/
def entL (x : EntM) : List UInt8 := trip x.sum x.at_ x.count
theorem ent_dd {x : EntM} (h : EntOkM x) : ∃ a b c : Nat, x = ⟨(a : Int), (b : Int), (c : Int)⟩ ∧ a < 100000000 ∧ b < 100000000 ∧ c < 100000000 ∧ entL x = Lib.decDigits a ++ 46 :: (Lib.decDigits b ++ 46 :: Lib.decDigits c) := by
  obtain ⟨x, y, z⟩ := x
  obtain ⟨h1, h2, h3, h4, h5, h6⟩ := h
  simp only at h1 h2 h3 h4 h5 h6
  obtain ⟨a, rfl⟩ : ∃ a : Nat, x = a := ⟨x.toNat, by omega⟩
  obtain ⟨b, rfl⟩ : ∃ b : Nat, y = b := ⟨y.toNat, by omega⟩
  obtain ⟨c, rfl⟩ : ∃ c : Nat, z = c := ⟨z.toNat, by omega⟩
  exact ⟨a, b, c, rfl, by omega, by omega, by omega, by simp only [entL, trip, Lib.itoa_nonneg]⟩
theorem dd_sp (m : Nat) : (32 : UInt8) ∉ Lib.decDigits m := fun h => by
  have := dd_all m 32 h
  simp at this
theorem ent_space {x : EntM} (h : EntOkM x) : (32 : UInt8) ∉ entL x := by
  obtain ⟨a, b, c, _, _, _, _, e⟩ := ent_dd h
  rw [e]
  intro h
  rcases List.mem_append.1 h with h | h
  · exact dd_sp a h
  · rcases List.mem_cons.1 h with h | h
    · simp at h
    · rcases List.mem_append.1 h with h | h
      · exact dd_sp b h
      · rcases List.mem_cons.1 h with h | h
        · simp at h
        · exact dd_sp c h
theorem ent_pieces {x : EntM} (h : EntOkM x) : ∃ a b c : Nat, x = ⟨(a : Int), (b : Int), (c : Int)⟩ ∧ a < 100000000 ∧ b < 100000000 ∧ c < 100000000 ∧ pieces (entL x) = [Lib.decDigits a, Lib.decDigits b, Lib.decDigits c] := by
  obtain ⟨a, b, c, e0, h1, h2, h3, e⟩ := ent_dd h
  exact ⟨a, b, c, e0, h1, h2, h3, by rw [e]; exact pieces_good a b c⟩
theorem ent_parse {x : EntM} (h : EntOkM x) : parseL (entL x) = some ⟨x.sum, x.at_, x.count⟩ := by
  obtain ⟨a, b, c, rfl, ha, hb, hc, e⟩ := ent_dd h
  rw [e]
  unfold parseL
  rw [cut_at _ _ (dd_point a)]
  simp only
  rw [cut_at _ _ (dd_point b)]
  simp only
  rw [atoi_digs a (by omega), atoi_digs b (by omega), atoi_digs c (by omega)]
theorem join_pieces : ∀ (xs : List (List UInt8)), xs ≠ [] → (∀ x ∈ xs, (32 : UInt8) ∉ x) → pieces32 (Lib.join xs [32]) = xs
  | [], h, _ => absurd rfl h
  | [x], _, hx => by rw [Lib.join_one]; exact pieces_one32 x (hx x (by simp))
  | x :: y :: r, _, hx => by
    have h1 : Lib.join (x :: y :: r) [32] = x ++ 32 :: Lib.join (y :: r) [32] := by
      rw [Lib.join_cons, Lib.join_cons]
      simp [Lib.joinTail]
    rw [h1, pieces_cut32 _ _ (hx x (by simp)), join_pieces (y :: r) (by simp) (fun z hz => hx z (by simp [hz]))]
/-- The text spells these entries. -/
def DSpells (t : ByteArray) (ls : List EntM) : Prop := DdtOkM ls ∧ ddtText ls = t
theorem dok_ents {ls : List EntM} (h : DdtOkM ls) : ∀ x ∈ ls, EntOkM x := fun x hx => by
  obtain ⟨j, hj, rfl⟩ := List.mem_iff_getElem.1 hx
  exact (h.2 j hj hj).1
theorem dspells_join {t : ByteArray} {ls : List EntM} (h : DSpells t ls) : t.data.toList = Lib.join (ls.map entL) [32] := by
  obtain ⟨h1, rfl⟩ := h
  unfold ddtText
  rw [if_pos h1]
  unfold joinB
  simp [entB, Function.comp_def]
  rfl
theorem dspells_pieces {t : ByteArray} {ls : List EntM} (h : DSpells t ls) (hne : ls ≠ []) : pieces32 t.data.toList = ls.map entL := by
  rw [dspells_join h]
  refine join_pieces _ (by simpa using hne) ?_
  intro x hx
  obtain ⟨y, hy, rfl⟩ := List.mem_map.1 hx
  exact ent_space (dok_ents h.1 y hy)
theorem entL_ne {x : EntM} (h : EntOkM x) : entL x ≠ [] := by
  obtain ⟨a, b, c, _, _, _, _, e⟩ := ent_dd h
  rw [e]
  have := dd_pos a
  intro h2
  have := congrArg List.length h2
  simp at this
/-- The empty text spells no entry, and what is not empty some. -/
theorem dspells_nil {ls : List EntM} (h : DSpells ⟨#[]⟩ ls) : ls = [] := by
  have e := dspells_join h
  match ls, h with
  | [], _ => rfl
  | x :: r, h =>
    exfalso
    rw [List.map_cons, Lib.join_cons] at e
    have h1 : entL x = [] := (List.append_eq_nil_iff.1 e.symm).1
    exact entL_ne (dok_ents h.1 x (by simp)) h1
theorem dok_nil : DdtOkM [] := ⟨by simp, fun j h => by simp at h⟩
theorem dtext_nil : ddtText [] = ⟨#[]⟩ := by
  unfold ddtText
  rw [if_pos dok_nil]
  rfl
theorem dspells_some {t : ByteArray} {ls : List EntM} (h : DSpells t ls) (ht : t ≠ ⟨#[]⟩) : ls ≠ [] := fun e => ht (by rw [← h.2, e, dtext_nil])
theorem entL_inj {x y : EntM} (hx : EntOkM x) (hy : EntOkM y) (h : entL x = entL y) : x = y := by
  have h1 := ent_parse hx
  rw [h, ent_parse hy] at h1
  obtain ⟨a, b, c⟩ := x
  obtain ⟨d, e, f⟩ := y
  simp at h1
  simp only [EntM.mk.injEq]
  exact ⟨h1.1.symm, h1.2.1.symm, h1.2.2.symm⟩
theorem ents_inj : ∀ (ls ms : List EntM), (∀ x ∈ ls, EntOkM x) → (∀ x ∈ ms, EntOkM x) → ls.map entL = ms.map entL → ls = ms
  | [], [], _, _, _ => rfl
  | [], _ :: _, _, _, h => by simp at h
  | _ :: _, [], _, _, h => by simp at h
  | x :: r, y :: s, hx, hy, h => by
    rw [List.map_cons, List.map_cons, List.cons.injEq] at h
    rw [entL_inj (hx x (by simp)) (hy y (by simp)) h.1, ents_inj r s (fun z hz => hx z (by simp [hz])) (fun z hz => hy z (by simp [hz])) h.2]
theorem dspells_one {t : ByteArray} {ls ms : List EntM} (h : DSpells t ls) (k : DSpells t ms) : ls = ms := by
  by_cases ht : t = ⟨#[]⟩
  · subst ht; rw [dspells_nil h, dspells_nil k]
  · exact ents_inj ls ms (dok_ents h.1) (dok_ents k.1) ((dspells_pieces h (dspells_some h ht)).symm.trans (dspells_pieces k (dspells_some k ht)))
/-- What is read of a text: the entries that it spells, if it is not too long. -/
def RdE (t : ByteArray) : Option (List EntM) → Prop
  | some ls => t.size ≤ 1000 ∧ DSpells t ls
  | none => ¬ t.size ≤ 1000 ∨ ∀ ls, ¬ DSpells t ls
theorem rdE_ex (t : ByteArray) : ∃ o, RdE t o := by
  by_cases h : t.size ≤ 1000 ∧ ∃ ls, DSpells t ls
  · exact ⟨some h.2.choose, h.1, h.2.choose_spec⟩
  · refine ⟨none, ?_⟩
    by_cases h1 : t.size ≤ 1000
    · exact .inr fun ls hl => h ⟨h1, ls, hl⟩
    · exact .inl h1
theorem rdE_some {t : ByteArray} {o : Option (List EntM)} {ls : List EntM} (h : RdE t o) (h1 : t.size ≤ 1000) (k : DSpells t ls) : o = some ls := by
  cases o with
  | some ms => rw [dspells_one h.2 k]
  | none => exact absurd h1 (h.elim (fun e => e) (fun e => absurd k (e ls)))
theorem rdE_none {t : ByteArray} {o : Option (List EntM)} (h : RdE t o) (k : ¬ t.size ≤ 1000 ∨ ∀ ls, ¬ DSpells t ls) : o = none := by
  cases o with
  | none => rfl
  | some ms => exact absurd h.1 (k.elim (fun e => e) (fun e => absurd h.2 (e ms)))
end Go.Proofs.YtojjenclcidnkaaDoor
