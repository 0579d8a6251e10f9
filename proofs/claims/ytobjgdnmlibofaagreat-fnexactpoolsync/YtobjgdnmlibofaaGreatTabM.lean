/-
  The table as a list of entries by ascending places: put, delete, find; the keys of a map that reads so.
-/
import Derived.Test.YtobjgdnmlibofaaGreatDdtCnt
import Derived.Maps.OwnSet
import Derived.Lib.SlKeysI
set_option maxRecDepth 100000
namespace Go.Proofs.YtobjgdnmlibofaaGreat
open Go.ChangeShapes Go.WideShapes Go.ChangeAt Go.RowKit Go.Proofs.Palim Go.Maps

def AscE (ls : List EntM) : Prop := ls.Pairwise (fun x y => x.at_ < y.at_)
def putTb : List EntM → EntM → List EntM
  | [], x => [x]
  | y :: T, x => if x.at_ < y.at_ then x :: y :: T else if y.at_ = x.at_ then x :: T else y :: putTb T x
def delM (T : List EntM) (a : Int) : List EntM := T.filter (fun e => decide (e.at_ ≠ a))
theorem ascE_of_good {ls : List EntM} (h : GoodE ls ls.length) : AscE ls := by
  unfold AscE
  rw [List.pairwise_iff_getElem]
  intro i j hi hj hij
  exact goodE_lt h hij hj
theorem good_of_ascE {ls : List EntM} (h : AscE ls) (hk : ∀ x ∈ ls, EntOkM x) : GoodE ls ls.length := by
  intro j hj _
  refine ⟨hk _ (List.getElem_mem hj), fun h0 => ?_⟩
  exact (List.pairwise_iff_getElem.1 h) (j - 1) j (by omega) hj (by omega)
theorem findE_nil (a : Int) : findE [] a = none := rfl
theorem findE_cons (x : EntM) (T : List EntM) (a : Int) : findE (x :: T) a = if x.at_ = a then some x else findE T a := by
  unfold findE
  rw [List.find?_cons]
  by_cases h : x.at_ = a
  · rw [if_pos h, show (x.at_ == a) = true by simpa using h]
  · rw [if_neg h, show (x.at_ == a) = false by simpa using h]
theorem findE_lt {T : List EntM} {a : Int} (h : ∀ x ∈ T, a < x.at_) : findE T a = none := by
  unfold findE
  rw [List.find?_eq_none]
  intro x hx
  have := h x hx
  have h2 : x.at_ ≠ a := by omega
  simpa using h2
theorem findE_some {T : List EntM} {a : Int} {e : EntM} (h : findE T a = some e) : e ∈ T ∧ e.at_ = a := by
  unfold findE at h
  have h2 := List.find?_some h
  exact ⟨List.mem_of_find?_eq_some h, by simpa using h2⟩
theorem findE_mem {T : List EntM} (ha : AscE T) {e : EntM} (he : e ∈ T) : findE T e.at_ = some e := by
  induction T with
  | nil => cases he
  | cons y T ih =>
    rw [findE_cons]
    have hp := List.pairwise_cons.1 ha
    rcases List.mem_cons.1 he with rfl | he
    · rw [if_pos rfl]
    · have := hp.1 e he
      rw [if_neg (by omega)]
      exact ih hp.2 he
theorem mem_putM {T : List EntM} {x y : EntM} (h : y ∈ putTb T x) : y = x ∨ y ∈ T := by
  induction T with
  | nil => simpa [putTb] using h
  | cons z T ih =>
    unfold putTb at h
    split at h
    · simpa using h
    · split at h
      · rcases List.mem_cons.1 h with h | h
        · exact Or.inl h
        · exact Or.inr (List.mem_cons_of_mem _ h)
      · rcases List.mem_cons.1 h with h | h
        · exact Or.inr (h ▸ List.mem_cons_self)
        · exact (ih h).imp id (List.mem_cons_of_mem _)
theorem asc_putM {T : List EntM} (h : AscE T) (x : EntM) : AscE (putTb T x) := by
  induction T with
  | nil => simp [putTb, AscE]
  | cons y T ih =>
    have hp := List.pairwise_cons.1 h
    unfold putTb
    split
    · rename_i h1
      refine List.pairwise_cons.2 ⟨fun z hz => ?_, h⟩
      rcases List.mem_cons.1 hz with rfl | hz
      · exact h1
      · have := hp.1 z hz; omega
    · rename_i h1
      split
      · rename_i h2
        exact List.pairwise_cons.2 ⟨fun z hz => by have := hp.1 z hz; omega, hp.2⟩
      · rename_i h2
        refine List.pairwise_cons.2 ⟨fun z hz => ?_, ih hp.2⟩
        rcases mem_putM hz with rfl | hz
        · omega
        · exact hp.1 z hz
theorem findE_putM {T : List EntM} (h : AscE T) (x : EntM) (b : Int) : findE (putTb T x) b = if b = x.at_ then some x else findE T b := by
  induction T with
  | nil =>
    simp only [putTb, findE_cons, findE_nil]
    by_cases e : x.at_ = b
    · rw [if_pos e, if_pos e.symm]
    · rw [if_neg e, if_neg (fun c => e c.symm)]
  | cons y T ih =>
    have hp := List.pairwise_cons.1 h
    unfold putTb
    split
    · rename_i h1
      rw [findE_cons]
      by_cases e : x.at_ = b
      · rw [if_pos e, if_pos e.symm]
      · rw [if_neg e, if_neg (fun c => e c.symm)]
    · rename_i h1
      split
      · rename_i h2
        rw [findE_cons, findE_cons]
        by_cases e : x.at_ = b
        · rw [if_pos e, if_pos e.symm]
        · rw [if_neg e, if_neg (fun c => e c.symm), if_neg (by omega)]
      · rename_i h2
        rw [findE_cons, findE_cons, ih hp.2]
        by_cases e : b = x.at_
        · rw [if_pos e, if_neg (by omega), if_pos e]
        · rw [if_neg e, if_neg e]
theorem length_putM {T : List EntM} (h : AscE T) (x : EntM) : (putTb T x).length = if (findE T x.at_).isSome then T.length else T.length + 1 := by
  induction T with
  | nil => rfl
  | cons y T ih =>
    have hp := List.pairwise_cons.1 h
    unfold putTb
    split
    · rename_i h1
      have e1 : findE (y :: T) x.at_ = none := by rw [findE_cons, if_neg (by omega), findE_lt (fun z hz => by have := hp.1 z hz; omega)]
      rw [e1]
      simp
    · rename_i h1
      split
      · rename_i h2
        rw [findE_cons, if_pos h2]
        simp
      · rename_i h2
        rw [findE_cons, if_neg h2, List.length_cons, ih hp.2]
        split <;> simp
theorem asc_delM {T : List EntM} (h : AscE T) (a : Int) : AscE (delM T a) := List.Pairwise.sublist List.filter_sublist h
theorem findE_delM {T : List EntM} (a b : Int) : findE (delM T a) b = if b = a then none else findE T b := by
  induction T with
  | nil => simp [delM, findE_nil]
  | cons y T ih =>
    unfold delM at ih ⊢
    rw [List.filter_cons]
    by_cases e : y.at_ = a
    · rw [if_neg (by simp [e]), ih, findE_cons]
      by_cases e2 : b = a
      · rw [if_pos e2, if_pos e2]
      · rw [if_neg e2, if_neg e2, if_neg (by omega)]
    · rw [if_pos (by simp [e]), findE_cons, ih, findE_cons]
      by_cases e2 : b = a
      · rw [if_pos e2, if_pos e2, if_neg (by omega)]
      · rw [if_neg e2, if_neg e2]
theorem delM_length {T : List EntM} (h : AscE T) {a : Int} (hs : (findE T a).isSome = true) : (delM T a).length + 1 = T.length := by
  induction T with
  | nil => cases hs
  | cons y T ih =>
    have hp := List.pairwise_cons.1 h
    unfold delM at ih ⊢
    rw [List.filter_cons]
    rw [findE_cons] at hs
    by_cases e : y.at_ = a
    · rw [if_neg (by simp [e]), List.filter_eq_self.2 (fun z hz => by have := hp.1 z hz; simp; omega)]
      simp
    · rw [if_neg e] at hs
      rw [if_pos (by simp [e])]
      have := ih hp.2 hs
      simp only [List.length_cons]
      omega
/-- An ascending list is told by what one finds in it. -/
theorem ext_findE {S T : List EntM} (hs : AscE S) (ht : AscE T) (h : ∀ a, findE S a = findE T a) : S = T := by
  have hm : ∀ x, x ∈ S ↔ x ∈ T := fun x => by
    constructor
    · intro hx
      have := findE_mem hs hx
      rw [h] at this
      exact (findE_some this).1
    · intro hx
      have := findE_mem ht hx
      rw [← h] at this
      exact (findE_some this).1
  have hd : ∀ {U : List EntM}, AscE U → U.Nodup := fun hu => List.Pairwise.imp (fun hlt e => by subst e; omega) hu
  have hp := (List.perm_ext_iff_of_nodup (hd hs) (hd ht)).2 hm
  unfold AscE at hs ht
  exact List.Perm.eq_of_pairwise (le := fun a b : EntM => a.at_ < b.at_) (fun a b _ _ h1 h2 => by omega) hs ht hp
theorem putTb_set {T : List EntM} (h : AscE T) {x : EntM} : ∀ {k : Nat} (hk : k < T.length), (T[k]'hk).at_ = x.at_ → putTb T x = T.set k x := by
  induction T with
  | nil => intro k hk; simp at hk
  | cons y T ih =>
    intro k hk e
    have hp := List.pairwise_cons.1 h
    cases k with
    | zero =>
      simp only [List.getElem_cons_zero] at e
      unfold putTb
      rw [if_neg (by omega), if_pos e]
      rfl
    | succ k =>
      simp only [List.getElem_cons_succ] at e
      have h1 := hp.1 (T[k]'(by simpa using hk)) (List.getElem_mem _)
      unfold putTb
      rw [if_neg (by omega), if_neg (by omega), ih hp.2 (by simpa using hk) e]
      rfl
theorem putTb_ins {T : List EntM} {x : EntM} : ∀ {k : Nat}, k ≤ T.length → (∀ (i : Nat) (h : i < T.length), i < k → T[i].at_ < x.at_) → (∀ h : k < T.length, x.at_ < T[k].at_) → putTb T x = T.take k ++ x :: T.drop k := by
  induction T with
  | nil => intro k hk _ _; simp [putTb]
  | cons y T ih =>
    intro k hk h1 h2
    cases k with
    | zero =>
      have := h2 (by simp)
      simp only [List.getElem_cons_zero] at this
      unfold putTb
      rw [if_pos this]
      rfl
    | succ k =>
      have := h1 0 (by simp) (by omega)
      simp only [List.getElem_cons_zero] at this
      unfold putTb
      rw [if_neg (by omega), if_neg (by omega), ih (k := k) (by simpa using hk) (fun i hi hik => by have := h1 (i + 1) (by simpa using hi) (by omega); simpa using this) (fun hh => by have := h2 (by simpa using hh); simpa using this)]
      rfl
theorem delM_at {T : List EntM} (h : AscE T) {a : Int} : ∀ {k : Nat} (hk : k < T.length), (T[k]'hk).at_ = a → delM T a = T.take k ++ T.drop (k + 1) := by
  induction T with
  | nil => intro k hk; simp at hk
  | cons y T ih =>
    intro k hk e
    have hp := List.pairwise_cons.1 h
    unfold delM at ih ⊢
    rw [List.filter_cons]
    cases k with
    | zero =>
      simp only [List.getElem_cons_zero] at e
      rw [if_neg (by simp [e]), List.filter_eq_self.2 (fun z hz => by have := hp.1 z hz; simp; omega)]
      rfl
    | succ k =>
      simp only [List.getElem_cons_succ] at e
      have h1 := hp.1 (T[k]'(by simpa using hk)) (List.getElem_mem _)
      rw [if_pos (by simp; omega), ih hp.2 (by simpa using hk) e]
      rfl
theorem delM_putM {T : List EntM} (h : AscE T) (x : EntM) : delM (putTb T x) x.at_ = delM T x.at_ :=
  ext_findE (asc_delM (asc_putM h x) _) (asc_delM h _) fun b => by
    rw [findE_delM, findE_delM, findE_putM h]
    by_cases e : b = x.at_ <;> simp [e]
theorem putTb_snoc {T : List EntM} {x : EntM} (h : ∀ y ∈ T, y.at_ < x.at_) : putTb T x = T ++ [x] := by
  induction T with
  | nil => rfl
  | cons y T ih =>
    have := h y (by simp)
    unfold putTb
    rw [if_neg (by omega), if_neg (by omega), ih (fun z hz => h z (by simp [hz]))]
    rfl
theorem delM_le (T : List EntM) (a : Int) : (delM T a).length ≤ T.length := List.length_filter_le _ _
/-- One more that points at a place. -/
noncomputable def addE (T : List EntM) (s a : Int) : Option (List EntM) :=
  if ((findE T a).getD ⟨s, a, 0⟩).sum ≠ s ∨ ¬ EntOkM ⟨((findE T a).getD ⟨s, a, 0⟩).sum, a, ((findE T a).getD ⟨s, a, 0⟩).count + 1⟩ ∨ ((findE T a).isSome = false ∧ T.length = 48) then none
  else some (putTb T ⟨((findE T a).getD ⟨s, a, 0⟩).sum, a, ((findE T a).getD ⟨s, a, 0⟩).count + 1⟩)
theorem addE_some {T T' : List EntM} {s a : Int} (h : addE T s a = some T') : ((findE T a).getD ⟨s, a, 0⟩).sum = s ∧ EntOkM ⟨s, a, ((findE T a).getD ⟨s, a, 0⟩).count + 1⟩ ∧ ((findE T a).isSome = false → T.length ≠ 48) ∧ T' = putTb T ⟨s, a, ((findE T a).getD ⟨s, a, 0⟩).count + 1⟩ := by
  unfold addE at h
  split at h
  · cases h
  · rename_i hc
    have h1 : ((findE T a).getD ⟨s, a, 0⟩).sum = s := Classical.byContradiction fun c => hc (Or.inl c)
    have h2 : EntOkM ⟨((findE T a).getD ⟨s, a, 0⟩).sum, a, ((findE T a).getD ⟨s, a, 0⟩).count + 1⟩ := Classical.byContradiction fun c => hc (Or.inr (Or.inl c))
    rw [h1] at h2 h
    exact ⟨h1, h2, fun h3 h4 => hc (Or.inr (Or.inr ⟨h3, h4⟩)), (Option.some.inj h).symm⟩
theorem addE_intro {T : List EntM} {s a : Int} (h1 : ((findE T a).getD ⟨s, a, 0⟩).sum = s) (h2 : EntOkM ⟨s, a, ((findE T a).getD ⟨s, a, 0⟩).count + 1⟩) (h3 : (findE T a).isSome = false → T.length ≠ 48) :
    addE T s a = some (putTb T ⟨s, a, ((findE T a).getD ⟨s, a, 0⟩).count + 1⟩) := by
  unfold addE
  rw [if_neg]
  · rw [h1]
  · rw [h1]
    rintro (c | c | ⟨c, d⟩)
    · exact c rfl
    · exact c h2
    · exact h3 c d
/-- What DdtAdd and DdtDrop answer. -/
noncomputable def addR (ls : List EntM) (s a : Int) : List EntM × Bool := if DdtOkM ls then (match addE ls s a with | some T => (T, true) | none => (ls, false)) else ([], false)
noncomputable def dropR (ls : List EntM) (a : Int) : List EntM × Bool := if DdtOkM ls then (match findE ls a with | some e => (if e.count = 1 then delM ls a else putTb ls ⟨e.sum, a, e.count - 1⟩, true) | none => (ls, false)) else ([], false)
theorem addE_len {T T' : List EntM} (ha : AscE T) (hl : T.length ≤ 48) {s a : Int} (h : addE T s a = some T') : T'.length ≤ 48 := by
  obtain ⟨_, _, h3, rfl⟩ := addE_some h
  rw [length_putM ha]
  simp only
  split
  · exact hl
  · rename_i hh
    have := h3 (by simpa using hh)
    omega
theorem addR_le (ls : List EntM) (s a : Int) : (addR ls s a).1.length ≤ 48 := by
  unfold addR
  split
  · rename_i h
    split
    · rename_i T hT
      exact addE_len (ascE_of_good h.2) h.1 hT
    · exact h.1
  · simp
theorem dropR_le (ls : List EntM) (a : Int) : (dropR ls a).1.length ≤ 48 := by
  unfold dropR
  split
  · rename_i h
    split
    · rename_i e he
      simp only
      split
      · exact Nat.le_trans (delM_le _ _) h.1
      · rw [length_putM (ascE_of_good h.2)]
        simp only
        rw [he]
        simpa using h.1
    · exact h.1
  · simp
theorem wf_i64 {a : Int} (h : 0 ≤ a) (h2 : a < 1000000000) : (Lit.int .i64 a).wf = true := by
  simp only [Lit.wf]
  have e1 : IntKind.min .i64 = -9223372036854775808 := by decide
  have e2 : IntKind.max .i64 = 9223372036854775807 := by decide
  rw [e1, e2]
  simp only [Bool.and_eq_true, decide_eq_true_eq]
  constructor <;> omega

/-- An entry as the map's value. -/
def entD (x : EntM) : DataW Unit := .agg [.lit (.int .i64 x.sum), .lit (.int .i64 x.at_), .lit (.int .i64 x.count)]
def entR : Value → Option (DataW Unit × List MemPlace)
  | .agg cs => match cs.toList with
    | [.int .i64 a, .int .i64 b, .int .i64 c] => some (entD ⟨a, b, c⟩, [])
    | _ => none
  | _ => none
theorem entR_mk (x : EntM) : entR (entV x) = some (entD x, []) := rfl
theorem entD_inj {x y : EntM} (h : entD x = entD y) : x = y := by
  unfold entD at h
  injection h with h
  injection h with h1 h
  injection h with h2 h
  injection h with h3 h
  injection h1 with h1; injection h2 with h2; injection h3 with h3
  injection h1 with _ h1; injection h2 with _ h2; injection h3 with _ h3
  cases x; cases y
  simp only at h1 h2 h3
  subst h1 h2 h3
  rfl
theorem entR_inv {v : Value} {x : EntM} {ps : List MemPlace} (h : entR v = some (entD x, ps)) : v = entV x := by
  unfold entR at h
  split at h
  · rename_i cs
    split at h
    · rename_i a b c hl
      simp only [Option.some.injEq, Prod.mk.injEq] at h
      have := entD_inj h.1
      subst this
      unfold entV
      cases cs
      simp only at hl
      subst hl
      rfl
    · cases h
  · cases h
end Go.Proofs.YtobjgdnmlibofaaGreat
