/-
  Texts put in one after the other are the texts sorted, doubles struck.
-/
import Derived.Test.YtoeaeckkmpdpiaaSpecTexts
import Derived.Sort.Walk0
import Derived.Lib.SlicesCompact
set_option maxRecDepth 100000
namespace Go.Proofs.Ytoeaeckkmpdpiaa
open Go.ChangeShapes Go.WideShapes Go.ChangeAt Go.RowKit Go.Proofs.Palim

abbrev bl (s : ByteArray) : List UInt8 := s.data.toList
theorem lt_iff (a b : ByteArray) : Lt a b ↔ bl a < bl b := by
  unfold Lt
  rw [ByteArray.toList_eq, ByteArray.toList_eq, bytesLess_eq, decide_eq_true_eq]
theorem bl_inj {a b : ByteArray} (h : bl a = bl b) : a = b := by
  obtain ⟨⟨x⟩⟩ := a
  obtain ⟨⟨y⟩⟩ := b
  exact congrArg (fun l => (⟨⟨l⟩⟩ : ByteArray)) h
/-- Strictly ascending. -/
def AscL (l : List (List UInt8)) : Prop := l.Pairwise (· < ·)
theorem asc_unique : ∀ (a b : List (List UInt8)), AscL a → AscL b → (∀ x, x ∈ a ↔ x ∈ b) → a = b
  | [], [], _, _, _ => rfl
  | [], y :: b, _, _, h => absurd ((h y).2 (List.mem_cons_self ..)) (by simp)
  | x :: a, [], _, _, h => absurd ((h x).1 (List.mem_cons_self ..)) (by simp)
  | x :: a, y :: b, ha, hb, h => by
    obtain ⟨ha1, ha2⟩ := List.pairwise_cons.1 ha
    obtain ⟨hb1, hb2⟩ := List.pairwise_cons.1 hb
    have hxy : x = y := by
      rcases List.mem_cons.1 ((h x).1 (List.mem_cons_self ..)) with e | hx
      · exact e
      · rcases List.mem_cons.1 ((h y).2 (List.mem_cons_self ..)) with e | hy
        · exact e.symm
        · exact absurd (List.lt_trans (ha1 y hy) (hb1 x hx)) (List.lt_irrefl _)
    subst hxy
    have hm : ∀ z, z ∈ a ↔ z ∈ b := fun z => by
      constructor
      · intro hz
        rcases List.mem_cons.1 ((h z).1 (List.mem_cons_of_mem _ hz)) with e | hz'
        · exact absurd (e ▸ ha1 z hz) (List.lt_irrefl _)
        · exact hz'
      · intro hz
        rcases List.mem_cons.1 ((h z).2 (List.mem_cons_of_mem _ hz)) with e | hz'
        · exact absurd (e ▸ hb1 z hz) (List.lt_irrefl _)
        · exact hz'
    rw [asc_unique a b ha2 hb2 hm]
/-- Doubles struck from what ascends. -/
theorem compact_up (d : Array (List UInt8)) (hs : ∀ i j, i < j → j < d.size → d[i]! ≤ d[j]!) : ∀ m, m ≤ d.size →
    AscL (Lib.compactUpTo d m) ∧ (∀ x ∈ Lib.compactUpTo d m, ∃ i, i < m ∧ x = d[i]!) ∧ ∀ i, i < m → d[i]! ∈ Lib.compactUpTo d m
  | 0, _ => ⟨List.Pairwise.nil, by simp [Lib.compactUpTo], fun i h => absurd h (Nat.not_lt_zero _)⟩
  | m + 1, hm => by
    obtain ⟨h1, h2, h3⟩ := compact_up d hs m (by omega)
    rw [Lib.compactUpTo_succ]
    by_cases hk : Lib.keeps d m = true
    · rw [if_pos hk]
      have hk' : m = 0 ∨ d[m]! ≠ d[m - 1]! := by simpa [Lib.keeps] using hk
      refine ⟨?_, ?_, ?_⟩
      · refine List.pairwise_append.2 ⟨h1, by simp, fun a ha b hb => ?_⟩
        obtain rfl : b = d[m]! := by simpa using hb
        obtain ⟨i, hi, rfl⟩ := h2 a ha
        rcases hk' with e | hne
        · omega
        · have h5 : d[m - 1]! < d[m]! := by
            have h6 := hs (m - 1) m (by omega) (by omega)
            rcases Classical.em (d[m - 1]! < d[m]!) with h | h
            · exact h
            · exact absurd (List.le_antisymm h6 (List.not_lt.1 h)).symm hne
          by_cases e : i = m - 1
          · subst e; exact h5
          · exact List.lt_of_le_of_lt (hs i (m - 1) (by omega) (by omega)) h5
      · intro x hx
        rcases List.mem_append.1 hx with h | h
        · obtain ⟨i, hi, e⟩ := h2 x h; exact ⟨i, by omega, e⟩
        · exact ⟨m, by omega, by simpa using h⟩
      · intro i hi
        by_cases e : i = m
        · subst e; simp
        · exact List.mem_append_left _ (h3 i (by omega))
    · rw [if_neg hk, List.append_nil]
      have hk' : ¬ (m = 0 ∨ d[m]! ≠ d[m - 1]!) := by simpa [Lib.keeps] using hk
      refine ⟨h1, fun x hx => ?_, fun i hi => ?_⟩
      · obtain ⟨i, hi, e⟩ := h2 x hx; exact ⟨i, by omega, e⟩
      · by_cases e : i = m
        · subst e
          have e2 : d[i]! = d[i - 1]! := Classical.byContradiction fun h => hk' (Or.inr h)
          rw [e2]
          exact h3 (i - 1) (by omega)
        · exact h3 i (by omega)
theorem compact_asc (zs : List (List UInt8)) (hs : zs.Pairwise (· ≤ ·)) : AscL (Lib.compact zs) ∧ ∀ x, x ∈ Lib.compact zs ↔ x ∈ zs := by
  have hg : ∀ i (h : i < zs.length), zs.toArray[i]! = zs[i] := fun i h => by simp [h]
  obtain ⟨h1, h2, h3⟩ := compact_up zs.toArray (fun i j hij hj => by
    have hj' : j < zs.length := by simpa using hj
    rw [hg i (by omega), hg j hj']
    exact List.pairwise_iff_getElem.1 hs i j (by omega) hj' hij) zs.length (by simp)
  refine ⟨h1, fun x => ⟨fun hx => ?_, fun hx => ?_⟩⟩
  · obtain ⟨i, hi, rfl⟩ := h2 x hx
    rw [hg i hi]
    exact List.getElem_mem _
  · obtain ⟨i, hi, rfl⟩ := List.mem_iff_getElem.1 hx
    have := h3 i hi
    rw [hg i hi] at this
    exact this
/-- One text put in. -/
theorem insAt_le (ss : List ByteArray) (s : ByteArray) : insAt ss s ≤ ss.length := by
  unfold insAt
  have := (List.takeWhile_sublist (l := ss) (fun x => decide (Lt x s))).length_le
  exact this
theorem insAt_lt (ss : List ByteArray) (s : ByteArray) : ∀ x ∈ ss.take (insAt ss s), bl x < bl s := by
  intro x hx
  have e : ss.take (insAt ss s) = ss.takeWhile (fun x => decide (Lt x s)) := by
    unfold insAt
    exact (List.prefix_iff_eq_take.1 (List.takeWhile_prefix _)).symm
  rw [e] at hx
  have := List.all_takeWhile (p := fun x => decide (Lt x s)) (l := ss)
  have h2 := List.all_eq_true.1 this x hx
  exact (lt_iff x s).1 (of_decide_eq_true h2)
theorem insAt_ge (ss : List ByteArray) (s : ByteArray) (h : insAt ss s < ss.length) : ¬ bl ss[insAt ss s] < bl s := by
  intro hl
  have hL := (lt_iff _ _).2 hl
  induction ss with
  | nil => simp at h
  | cons a l ih =>
    by_cases ha : Lt a s
    · have e : insAt (a :: l) s = insAt l s + 1 := by simp [insAt, ha]
      have h' : insAt l s < l.length := by rw [e] at h; simpa using h
      have hg : (a :: l)[insAt (a :: l) s] = l[insAt l s] := by simp only [e, List.getElem_cons_succ]
      rw [hg] at hl hL
      exact ih h' hl hL
    · have e : insAt (a :: l) s = 0 := by simp [insAt, ha]
      have hg : (a :: l)[insAt (a :: l) s] = a := by simp only [e, List.getElem_cons_zero]
      rw [hg] at hL
      exact ha hL
theorem ins_asc (ss : List ByteArray) (s : ByteArray) (h : AscL (ss.map bl)) : AscL ((insM ss s).map bl) ∧ ∀ x, x ∈ insM ss s ↔ x ∈ ss ∨ x = s := by
  unfold insM
  by_cases he : ss[insAt ss s]? = some s
  · rw [if_pos he]
    refine ⟨h, fun x => ⟨Or.inl, fun hx => hx.elim id (fun e => ?_)⟩⟩
    subst e
    exact List.mem_of_getElem? he
  · rw [if_neg he]
    have hlt := insAt_lt ss s
    have hge : ∀ x ∈ ss.drop (insAt ss s), bl s < bl x := by
      intro x hx
      by_cases hk : insAt ss s < ss.length
      · have h0 := insAt_ge ss s hk
        have h1 : bl s < bl ss[insAt ss s] := by
          rcases Classical.em (bl s < bl ss[insAt ss s]) with h | h
          · exact h
          · have e := bl_inj (List.le_antisymm (List.not_lt.1 h) (List.not_lt.1 h0))
            exact absurd (by rw [List.getElem?_eq_getElem hk, e]) he
        rw [List.drop_eq_getElem_cons hk] at hx
        rcases List.mem_cons.1 hx with rfl | hx
        · exact h1
        · refine List.lt_trans h1 ?_
          obtain ⟨j, hj, rfl⟩ := List.mem_iff_getElem.1 hx
          have h2 := List.pairwise_iff_getElem.1 h (insAt ss s) (insAt ss s + 1 + j) (by simpa using hk) (by simp at hj ⊢; omega) (by omega)
          simpa using h2
      · rw [List.drop_eq_nil_of_le (by omega)] at hx
        cases hx
    refine ⟨?_, fun x => ?_⟩
    · rw [List.map_append, List.map_append]
      refine List.pairwise_append.2 ⟨List.pairwise_append.2 ⟨?_, by simp, fun a ha b hb => ?_⟩, ?_, fun a ha b hb => ?_⟩
      · rw [List.map_take]; exact List.Pairwise.sublist (List.take_sublist _ _) h
      · obtain ⟨y, hy, rfl⟩ := List.mem_map.1 ha
        obtain rfl : b = bl s := by simpa using hb
        exact hlt y hy
      · rw [List.map_drop]; exact List.Pairwise.sublist (List.drop_sublist _ _) h
      · obtain ⟨z, hz, rfl⟩ := List.mem_map.1 hb
        rcases List.mem_append.1 ha with ha | ha
        · obtain ⟨y, hy, rfl⟩ := List.mem_map.1 ha
          exact List.lt_trans (hlt y hy) (hge z hz)
        · obtain rfl : a = bl s := by simpa using ha
          exact hge z hz
    · constructor
      · intro hx
        rcases List.mem_append.1 hx with hx | hx
        · rcases List.mem_append.1 hx with hx | hx
          · exact Or.inl (List.mem_of_mem_take hx)
          · exact Or.inr (by simpa using hx)
        · exact Or.inl (List.mem_of_mem_drop hx)
      · rintro (hx | rfl)
        · have : x ∈ ss.take (insAt ss s) ++ ss.drop (insAt ss s) := by rw [List.take_append_drop]; exact hx
          rcases List.mem_append.1 this with h | h
          · exact List.mem_append_left _ (List.mem_append_left _ h)
          · exact List.mem_append_right _ h
        · exact List.mem_append_left _ (List.mem_append_right _ (by simp))
theorem fold_asc (ts acc : List ByteArray) (h : AscL (acc.map bl)) : AscL ((ts.foldl (fun acc t => if t.size = 0 then acc else insM acc t) acc).map bl) ∧ ∀ x, x ∈ ts.foldl (fun acc t => if t.size = 0 then acc else insM acc t) acc ↔ x ∈ acc ∨ x ∈ ts ∧ x.size ≠ 0 := by
  induction ts generalizing acc with
  | nil => exact ⟨h, fun x => by simp⟩
  | cons t ts ih =>
    rw [List.foldl_cons]
    by_cases h0 : t.size = 0
    · rw [if_pos h0]
      obtain ⟨h1, h2⟩ := ih acc h
      refine ⟨h1, fun x => (h2 x).trans ?_⟩
      constructor
      · rintro (h | ⟨h, h'⟩)
        · exact Or.inl h
        · exact Or.inr ⟨List.mem_cons_of_mem _ h, h'⟩
      · rintro (h | ⟨h, h'⟩)
        · exact Or.inl h
        · rcases List.mem_cons.1 h with rfl | h
          · exact absurd h0 h'
          · exact Or.inr ⟨h, h'⟩
    · rw [if_neg h0]
      obtain ⟨k1, k2⟩ := ins_asc acc t h
      obtain ⟨h1, h2⟩ := ih (insM acc t) k1
      refine ⟨h1, fun x => (h2 x).trans ?_⟩
      rw [k2]
      constructor
      · rintro ((h | rfl) | ⟨h, h'⟩)
        · exact Or.inl h
        · exact Or.inr ⟨List.mem_cons_self .., h0⟩
        · exact Or.inr ⟨List.mem_cons_of_mem _ h, h'⟩
      · rintro (h | ⟨h, h'⟩)
        · exact Or.inl (Or.inl h)
        · rcases List.mem_cons.1 h with rfl | h
          · exact Or.inl (Or.inr rfl)
          · exact Or.inr ⟨h, h'⟩
/-- The two lists are one. -/
theorem fold_is (ts : List ByteArray) : (foldT ts).map bl = Lib.compact (((ts.filter (fun t => decide (t.size ≠ 0))).map bl).mergeSort fun x y => decide (x ≤ y)) := by
  obtain ⟨h1, h2⟩ := fold_asc ts [] List.Pairwise.nil
  have hp := List.pairwise_mergeSort (le := fun x y : List UInt8 => decide (x ≤ y)) (fun a b c h1 h2 => decide_eq_true (List.le_trans (of_decide_eq_true h1) (of_decide_eq_true h2)))
    (fun a b => by simpa using List.le_total a b) ((ts.filter (fun t => decide (t.size ≠ 0))).map bl)
  obtain ⟨h3, h4⟩ := compact_asc _ (hp.imp (fun h => of_decide_eq_true h))
  refine asc_unique _ _ h1 h3 (fun x => ?_)
  rw [h4, List.mem_mergeSort]
  constructor
  · intro hx
    obtain ⟨y, hy, rfl⟩ := List.mem_map.1 hx
    have := (h2 y).1 hy
    simp at this
    exact List.mem_map.2 ⟨y, List.mem_filter.2 ⟨this.1, by simpa using this.2⟩, rfl⟩
  · intro hx
    obtain ⟨y, hy, rfl⟩ := List.mem_map.1 hx
    obtain ⟨hy1, hy2⟩ := List.mem_filter.1 hy
    exact List.mem_map.2 ⟨y, (h2 y).2 (Or.inr ⟨hy1, by simpa using hy2⟩), rfl⟩
end Go.Proofs.Ytoeaeckkmpdpiaa
