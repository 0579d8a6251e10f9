/-
  Texts joined into one.
-/
import Derived.Test.YtojjenclcidnkaaGreatDoorRoots
import Derived.Maps.OwnSet
import Derived.Lib.SlKeysI
import Derived.Test.YtojjenclcidnkaaGreatDoorBase
import Derived.Test.YtojjenclcidnkaaGreatDoorApp
import Derived.Test.YtojjenclcidnkaaGreatDoorDdtOk

/-
  The table as a list of entries by ascending places: put, delete, find; the keys of a map that reads so.
-/
set_option maxRecDepth 100000
namespace Go.Proofs.YtojjenclcidnkaaGreatDoor
open Go.ChangeShapes Go.WideShapes Go.ChangeAt Go.RowKit Go.Proofs.Palim Go.Maps

def AscE (ls : List EntM) : Prop := ls.Pairwise (fun x y => x.at_ < y.at_)
def putTb : List EntM → EntM → List EntM
  | [], x => [x]
  | y :: T, x => if x.at_ < y.at_ then x :: y :: T else if y.at_ = x.at_ then x :: T else y :: putTb T x
def delM (T : List EntM) (a : Int) : List EntM := T.filter (fun e => decide (e.at_ ≠ a))
theorem ascE_of_good {ls : List EntM} (h : GoodE ls ls.length) : AscE ls := by
  unfold AscE
  rw [List.pairwise_iff_getElem]
  intro i j hi hj hij
  exact goodE_lt h hij hj
theorem good_of_ascE {ls : List EntM} (h : AscE ls) (hk : ∀ x ∈ ls, EntOkM x) : GoodE ls ls.length := by
  intro j hj _
  refine ⟨hk _ (List.getElem_mem hj), fun h0 => ?_⟩
  exact (List.pairwise_iff_getElem.1 h) (j - 1) j (by omega) hj (by omega)
theorem findE_nil (a : Int) : findE [] a = none := rfl
theorem findE_cons (x : EntM) (T : List EntM) (a : Int) : findE (x :: T) a = if x.at_ = a then some x else findE T a := by
  unfold findE
  rw [List.find?_cons]
  by_cases h : x.at_ = a
  · rw [if_pos h, show (x.at_ == a) = true by simpa using h]
  · rw [if_neg h, show (x.at_ == a) = false by simpa using h]
theorem findE_lt {T : List EntM} {a : Int} (h : ∀ x ∈ T, a < x.at_) : findE T a = none := by
  unfold findE
  rw [List.find?_eq_none]
  intro x hx
  have := h x hx
  have h2 : x.at_ ≠ a := by omega
  simpa using h2
theorem findE_some {T : List EntM} {a : Int} {e : EntM} (h : findE T a = some e) : e ∈ T ∧ e.at_ = a := by
  unfold findE at h
  have h2 := List.find?_some h
  exact ⟨List.mem_of_find?_eq_some h, by simpa using h2⟩
theorem findE_mem {T : List EntM} (ha : AscE T) {e : EntM} (he : e ∈ T) : findE T e.at_ = some e := by
  induction T with
  | nil => cases he
  | cons y T ih =>
    rw [findE_cons]
    have hp := List.pairwise_cons.1 ha
    rcases List.mem_cons.1 he with rfl | he
    · rw [if_pos rfl]
    · have := hp.1 e he
      rw [if_neg (by omega)]
      exact ih hp.2 he
theorem mem_putM {T : List EntM} {x y : EntM} (h : y ∈ putTb T x) : y = x ∨ y ∈ T := by
  induction T with
  | nil => simpa [putTb] using h
  | cons z T ih =>
    unfold putTb at h
    split at h
    · simpa using h
    · split at h
      · rcases List.mem_cons.1 h with h | h
        · exact Or.inl h
        · exact Or.inr (List.mem_cons_of_mem _ h)
      · rcases List.mem_cons.1 h with h | h
        · exact Or.inr (h ▸ List.mem_cons_self)
        · exact (ih h).imp id (List.mem_cons_of_mem _)
theorem asc_putM {T : List EntM} (h : AscE T) (x : EntM) : AscE (putTb T x) := by
  induction T with
  | nil => simp [putTb, AscE]
  | cons y T ih =>
    have hp := List.pairwise_cons.1 h
    unfold putTb
    split
    · rename_i h1
      refine List.pairwise_cons.2 ⟨fun z hz => ?_, h⟩
      rcases List.mem_cons.1 hz with rfl | hz
      · exact h1
      · have := hp.1 z hz; omega
    · rename_i h1
      split
      · rename_i h2
        exact List.pairwise_cons.2 ⟨fun z hz => by have := hp.1 z hz; omega, hp.2⟩
      · rename_i h2
        refine List.pairwise_cons.2 ⟨fun z hz => ?_, ih hp.2⟩
        rcases mem_putM hz with rfl | hz
        · omega
        · exact hp.1 z hz
theorem findE_putM {T : List EntM} (h : AscE T) (x : EntM) (b : Int) : findE (putTb T x) b = if b = x.at_ then some x else findE T b := by
  induction T with
  | nil =>
    simp only [putTb, findE_cons, findE_nil]
    by_cases e : x.at_ = b
    · rw [if_pos e, if_pos e.symm]
    · rw [if_neg e, if_neg (fun c => e c.symm)]
  | cons y T ih =>
    have hp := List.pairwise_cons.1 h
    unfold putTb
    split
    · rename_i h1
      rw [findE_cons]
      by_cases e : x.at_ = b
      · rw [if_pos e, if_pos e.symm]
      · rw [if_neg e, if_neg (fun c => e c.symm)]
    · rename_i h1
      split
      · rename_i h2
        rw [findE_cons, findE_cons]
        by_cases e : x.at_ = b
        · rw [if_pos e, if_pos e.symm]
        · rw [if_neg e, if_neg (fun c => e c.symm), if_neg (by omega)]
      · rename_i h2
        rw [findE_cons, findE_cons, ih hp.2]
        by_cases e : b = x.at_
        · rw [if_pos e, if_neg (by omega), if_pos e]
        · rw [if_neg e, if_neg e]
theorem length_putM {T : List EntM} (h : AscE T) (x : EntM) : (putTb T x).length = if (findE T x.at_).isSome then T.length else T.length + 1 := by
  induction T with
  | nil => rfl
  | cons y T ih =>
    have hp := List.pairwise_cons.1 h
    unfold putTb
    split
    · rename_i h1
      have e1 : findE (y :: T) x.at_ = none := by rw [findE_cons, if_neg (by omega), findE_lt (fun z hz => by have := hp.1 z hz; omega)]
      rw [e1]
      simp
    · rename_i h1
      split
      · rename_i h2
        rw [findE_cons, if_pos h2]
        simp
      · rename_i h2
        rw [findE_cons, if_neg h2, List.length_cons, ih hp.2]
        split <;> simp
theorem asc_delM {T : List EntM} (h : AscE T) (a : Int) : AscE (delM T a) := List.Pairwise.sublist List.filter_sublist h
theorem findE_delM {T : List EntM} (a b : Int) : findE (delM T a) b = if b = a then none else findE T b := by
  induction T with
  | nil => simp [delM, findE_nil]
  | cons y T ih =>
    unfold delM at ih ⊢
    rw [List.filter_cons]
    by_cases e : y.at_ = a
    · rw [if_neg (by simp [e]), ih, findE_cons]
      by_cases e2 : b = a
      · rw [if_pos e2, if_pos e2]
      · rw [if_neg e2, if_neg e2, if_neg (by omega)]
    · rw [if_pos (by simp [e]), findE_cons, ih, findE_cons]
      by_cases e2 : b = a
      · rw [if_pos e2, if_pos e2, if_neg (by omega)]
      · rw [if_neg e2, if_neg e2]
theorem delM_length {T : List EntM} (h : AscE T) {a : Int} (hs : (findE T a).isSome = true) : (delM T a).length + 1 = T.length := by
  induction T with
  | nil => cases hs
  | cons y T ih =>
    have hp := List.pairwise_cons.1 h
    unfold delM at ih ⊢
    rw [List.filter_cons]
    rw [findE_cons] at hs
    by_cases e : y.at_ = a
    · rw [if_neg (by simp [e]), List.filter_eq_self.2 (fun z hz => by have := hp.1 z hz; simp; omega)]
      simp
    · rw [if_neg e] at hs
      rw [if_pos (by simp [e])]
      have := ih hp.2 hs
      simp only [List.length_cons]
      omega
/-- An ascending list is told by what one finds in it. -/
theorem ext_findE {S T : List EntM} (hs : AscE S) (ht : AscE T) (h : ∀ a, findE S a = findE T a) : S = T := by
  have hm : ∀ x, x ∈ S ↔ x ∈ T := fun x => by
    constructor
    · intro hx
      have := findE_mem hs hx
      rw [h] at this
      exact (findE_some this).1
    · intro hx
      have := findE_mem ht hx
      rw [← h] at this
      exact (findE_some this).1
  have hd : ∀ {U : List EntM}, AscE U → U.Nodup := fun hu => List.Pairwise.imp (fun hlt e => by subst e; omega) hu
  have hp := (List.perm_ext_iff_of_nodup (hd hs) (hd ht)).2 hm
  unfold AscE at hs ht
  exact List.Perm.eq_of_pairwise (le := fun a b : EntM => a.at_ < b.at_) (fun a b _ _ h1 h2 => by omega) hs ht hp
theorem putTb_set {T : List EntM} (h : AscE T) {x : EntM} : ∀ {k : Nat} (hk : k < T.length), (T[k]'hk).at_ = x.at_ → putTb T x = T.set k x := by
  induction T with
  | nil => intro k hk; simp at hk
  | cons y T ih =>
    intro k hk e
    have hp := List.pairwise_cons.1 h
    cases k with
    | zero =>
      simp only [List.getElem_cons_zero] at e
      unfold putTb
      rw [if_neg (by omega), if_pos e]
      rfl
    | succ k =>
      simp only [List.getElem_cons_succ] at e
      have h1 := hp.1 (T[k]'(by simpa using hk)) (List.getElem_mem _)
      unfold putTb
      rw [if_neg (by omega), if_neg (by omega), ih hp.2 (by simpa using hk) e]
      rfl
theorem putTb_ins {T : List EntM} {x : EntM} : ∀ {k : Nat}, k ≤ T.length → (∀ (i : Nat) (h : i < T.length), i < k → T[i].at_ < x.at_) → (∀ h : k < T.length, x.at_ < T[k].at_) → putTb T x = T.take k ++ x :: T.drop k := by
  induction T with
  | nil => intro k hk _ _; simp [putTb]
  | cons y T ih =>
    intro k hk h1 h2
    cases k with
    | zero =>
      have := h2 (by simp)
      simp only [List.getElem_cons_zero] at this
      unfold putTb
      rw [if_pos this]
      rfl
    | succ k =>
      have := h1 0 (by simp) (by omega)
      simp only [List.getElem_cons_zero] at this
      unfold putTb
      rw [if_neg (by omega), if_neg (by omega), ih (k := k) (by simpa using hk) (fun i hi hik => by have := h1 (i + 1) (by simpa using hi) (by omega); simpa using this) (fun hh => by have := h2 (by simpa using hh); simpa using this)]
      rfl
theorem delM_at {T : List EntM} (h : AscE T) {a : Int} : ∀ {k : Nat} (hk : k < T.length), (T[k]'hk).at_ = a → delM T a = T.take k ++ T.drop (k + 1) := by
  induction T with
  | nil => intro k hk; simp at hk
  | cons y T ih =>
    intro k hk e
    have hp := List.pairwise_cons.1 h
    unfold delM at ih ⊢
    rw [List.filter_cons]
    cases k with
    | zero =>
      simp only [List.getElem_cons_zero] at e
      rw [if_neg (by simp [e]), List.filter_eq_self.2 (fun z hz => by have := hp.1 z hz; simp; omega)]
      rfl
    | succ k =>
      simp only [List.getElem_cons_succ] at e
      have h1 := hp.1 (T[k]'(by simpa using hk)) (List.getElem_mem _)
      rw [if_pos (by simp; omega), ih hp.2 (by simpa using hk) e]
      rfl
theorem delM_putM {T : List EntM} (h : AscE T) (x : EntM) : delM (putTb T x) x.at_ = delM T x.at_ :=
  ext_findE (asc_delM (asc_putM h x) _) (asc_delM h _) fun b => by
    rw [findE_delM, findE_delM, findE_putM h]
    by_cases e : b = x.at_ <;> simp [e]
theorem putTb_snoc {T : List EntM} {x : EntM} (h : ∀ y ∈ T, y.at_ < x.at_) : putTb T x = T ++ [x] := by
  induction T with
  | nil => rfl
  | cons y T ih =>
    have := h y (by simp)
    unfold putTb
    rw [if_neg (by omega), if_neg (by omega), ih (fun z hz => h z (by simp [hz]))]
    rfl
theorem delM_le (T : List EntM) (a : Int) : (delM T a).length ≤ T.length := List.length_filter_le _ _
/-- One more that points at a place. -/
noncomputable def addE (T : List EntM) (s a : Int) : Option (List EntM) :=
  if ((findE T a).getD ⟨s, a, 0⟩).sum ≠ s ∨ ¬ EntOkM ⟨((findE T a).getD ⟨s, a, 0⟩).sum, a, ((findE T a).getD ⟨s, a, 0⟩).count + 1⟩ ∨ ((findE T a).isSome = false ∧ T.length = 48) then none
  else some (putTb T ⟨((findE T a).getD ⟨s, a, 0⟩).sum, a, ((findE T a).getD ⟨s, a, 0⟩).count + 1⟩)
theorem addE_some {T T' : List EntM} {s a : Int} (h : addE T s a = some T') : ((findE T a).getD ⟨s, a, 0⟩).sum = s ∧ EntOkM ⟨s, a, ((findE T a).getD ⟨s, a, 0⟩).count + 1⟩ ∧ ((findE T a).isSome = false → T.length ≠ 48) ∧ T' = putTb T ⟨s, a, ((findE T a).getD ⟨s, a, 0⟩).count + 1⟩ := by
  unfold addE at h
  split at h
  · cases h
  · rename_i hc
    have h1 : ((findE T a).getD ⟨s, a, 0⟩).sum = s := Classical.byContradiction fun c => hc (Or.inl c)
    have h2 : EntOkM ⟨((findE T a).getD ⟨s, a, 0⟩).sum, a, ((findE T a).getD ⟨s, a, 0⟩).count + 1⟩ := Classical.byContradiction fun c => hc (Or.inr (Or.inl c))
    rw [h1] at h2 h
    exact ⟨h1, h2, fun h3 h4 => hc (Or.inr (Or.inr ⟨h3, h4⟩)), (Option.some.inj h).symm⟩
theorem addE_intro {T : List EntM} {s a : Int} (h1 : ((findE T a).getD ⟨s, a, 0⟩).sum = s) (h2 : EntOkM ⟨s, a, ((findE T a).getD ⟨s, a, 0⟩).count + 1⟩) (h3 : (findE T a).isSome = false → T.length ≠ 48) :
    addE T s a = some (putTb T ⟨s, a, ((findE T a).getD ⟨s, a, 0⟩).count + 1⟩) := by
  unfold addE
  rw [if_neg]
  · rw [h1]
  · rw [h1]
    rintro (c | c | ⟨c, d⟩)
    · exact c rfl
    · exact c h2
    · exact h3 c d
/-- What DdtAdd and DdtDrop answer. -/
noncomputable def addR (ls : List EntM) (s a : Int) : List EntM × Bool := if DdtOkM ls then (match addE ls s a with | some T => (T, true) | none => (ls, false)) else ([], false)
noncomputable def dropR (ls : List EntM) (a : Int) : List EntM × Bool := if DdtOkM ls then (match findE ls a with | some e => (if e.count = 1 then delM ls a else putTb ls ⟨e.sum, a, e.count - 1⟩, true) | none => (ls, false)) else ([], false)
theorem addE_len {T T' : List EntM} (ha : AscE T) (hl : T.length ≤ 48) {s a : Int} (h : addE T s a = some T') : T'.length ≤ 48 := by
  obtain ⟨_, _, h3, rfl⟩ := addE_some h
  rw [length_putM ha]
  simp only
  split
  · exact hl
  · rename_i hh
    have := h3 (by simpa using hh)
    omega
theorem addR_le (ls : List EntM) (s a : Int) : (addR ls s a).1.length ≤ 48 := by
  unfold addR
  split
  · rename_i h
    split
    · rename_i T hT
      exact addE_len (ascE_of_good h.2) h.1 hT
    · exact h.1
  · simp
theorem dropR_le (ls : List EntM) (a : Int) : (dropR ls a).1.length ≤ 48 := by
  unfold dropR
  split
  · rename_i h
    split
    · rename_i e he
      simp only
      split
      · exact Nat.le_trans (delM_le _ _) h.1
      · rw [length_putM (ascE_of_good h.2)]
        simp only
        rw [he]
        simpa using h.1
    · exact h.1
  · simp
theorem wf_i64 {a : Int} (h : 0 ≤ a) (h2 : a < 1000000000) : (Lit.int .i64 a).wf = true := by
  simp only [Lit.wf]
  have e1 : IntKind.min .i64 = -9223372036854775808 := by decide
  have e2 : IntKind.max .i64 = 9223372036854775807 := by decide
  rw [e1, e2]
  simp only [Bool.and_eq_true, decide_eq_true_eq]
  constructor <;> omega

/-- An entry as the map's value. -/
def entD (x : EntM) : DataW Unit := .agg [.lit (.int .i64 x.sum), .lit (.int .i64 x.at_), .lit (.int .i64 x.count)]
def entR : Value → Option (DataW Unit × List MemPlace)
  | .agg cs => match cs.toList with
    | [.int .i64 a, .int .i64 b, .int .i64 c] => some (entD ⟨a, b, c⟩, [])
    | _ => none
  | _ => none
theorem entR_mk (x : EntM) : entR (entV x) = some (entD x, []) := rfl
theorem entD_inj {x y : EntM} (h : entD x = entD y) : x = y := by
  unfold entD at h
  injection h with h
  injection h with h1 h
  injection h with h2 h
  injection h with h3 h
  injection h1 with h1; injection h2 with h2; injection h3 with h3
  injection h1 with _ h1; injection h2 with _ h2; injection h3 with _ h3
  cases x; cases y
  simp only at h1 h2 h3
  subst h1 h2 h3
  rfl
theorem entR_inv {v : Value} {x : EntM} {ps : List MemPlace} (h : entR v = some (entD x, ps)) : v = entV x := by
  unfold entR at h
  split at h
  · rename_i cs
    split at h
    · rename_i a b c hl
      simp only [Option.some.injEq, Prod.mk.injEq] at h
      have := entD_inj h.1
      subst this
      unfold entV
      cases cs
      simp only at hl
      subst hl
      rfl
    · cases h
  · cases h
end Go.Proofs.YtojjenclcidnkaaGreatDoor

/-
  Counting pointers: the table that they make, and when it is a given one: the mathematics, of no program.
-/
set_option maxRecDepth 100000
namespace Go.Proofs.YtojjenclcidnkaaGreatDoor
open Go Go.Proofs.Palim

/-- The table that these pointers make of one. -/
noncomputable def tabM : List PtrM → List EntM → Option (List EntM)
  | [], T => some T
  | p :: P, T => if p.at_ = 0 then tabM P T else (addE T p.sum p.at_).bind (tabM P)
def cntM (P : List PtrM) (a : Int) : Nat := P.countP (fun p => decide (p.at_ = a))
def liveM (P : List PtrM) : Nat := P.countP (fun p => decide (0 < p.at_))
theorem cnt_cons (p : PtrM) (P : List PtrM) (a : Int) : cntM (p :: P) a = (if p.at_ = a then 1 else 0) + cntM P a := by
  unfold cntM
  rw [List.countP_cons]
  by_cases h : p.at_ = a <;> simp [h] <;> omega
theorem cnt_append (P Q : List PtrM) (a : Int) : cntM (P ++ Q) a = cntM P a + cntM Q a := by unfold cntM; rw [List.countP_append]
theorem cnt_pos {P : List PtrM} {a : Int} (h : 0 < cntM P a) : ∃ p ∈ P, p.at_ = a := by
  obtain ⟨p, hp, h2⟩ := List.countP_pos_iff.1 h
  exact ⟨p, hp, by simpa using h2⟩
theorem cnt_of_mem {P : List PtrM} {p : PtrM} (h : p ∈ P) : 0 < cntM P p.at_ := List.countP_pos_iff.2 ⟨p, h, by simp⟩
/-- What the table says of the pointers that it was made of. -/
structure InvT (P : List PtrM) (T : List EntM) : Prop where
  asc : AscE T
  ok : ∀ e ∈ T, EntOkM e
  len : T.length ≤ 48
  some_ : ∀ a e, findE T a = some e → e.count = (cntM P a : Nat) ∧ ∀ p ∈ P, p.at_ = a → p.sum = e.sum
  none_ : ∀ a, a ≠ 0 → findE T a = none → cntM P a = 0
theorem InvT.nil : InvT [] [] := ⟨List.Pairwise.nil, by simp, by simp, fun a e h => by simp [findE_nil] at h, fun a _ _ => rfl⟩
theorem InvT.skip {P : List PtrM} {T : List EntM} (h : InvT P T) {p : PtrM} (hp : p.at_ = 0) : InvT (P ++ [p]) T := by
  refine ⟨h.asc, h.ok, h.len, fun a e he => ?_, fun a ha hn => ?_⟩
  · obtain ⟨h1, h2⟩ := findE_some he
    have h3 := (h.ok e h1).2.2.1
    have h4 := h.some_ a e he
    have hz : cntM [p] a = 0 := by rw [cnt_cons, if_neg (by omega)]; rfl
    refine ⟨by rw [cnt_append, hz]; simpa using h4.1, fun q hq hqa => ?_⟩
    rcases List.mem_append.1 hq with hq | hq
    · exact h4.2 q hq hqa
    · obtain rfl : q = p := by simpa using hq
      omega
  · have hz : cntM [p] a = 0 := by rw [cnt_cons, if_neg (by omega)]; rfl
    rw [cnt_append, hz, h.none_ a ha hn]
theorem InvT.add {P : List PtrM} {T T' : List EntM} (h : InvT P T) {p : PtrM} (hp : p.at_ ≠ 0) (ha : addE T p.sum p.at_ = some T') : InvT (P ++ [p]) T' := by
  obtain ⟨h1, h2, h3, rfl⟩ := addE_some ha
  have hf := findE_putM h.asc (x := ⟨p.sum, p.at_, ((findE T p.at_).getD ⟨p.sum, p.at_, 0⟩).count + 1⟩)
  simp only at hf
  refine ⟨asc_putM h.asc _, fun e he => ?_, ?_, fun a e he => ?_, fun a ha0 hn => ?_⟩
  · rcases mem_putM he with rfl | he
    · exact h2
    · exact h.ok e he
  · rw [length_putM h.asc]
    simp only
    split
    · exact h.len
    · rename_i hh
      have := h3 (by simpa using hh)
      have := h.len
      omega
  · rw [hf] at he
    by_cases e1 : a = p.at_
    · subst e1
      rw [if_pos rfl] at he
      have he := (Option.some.inj he).symm
      subst he
      simp only
      have hz : cntM [p] p.at_ = 1 := by rw [cnt_cons, if_pos rfl]; rfl
      rw [cnt_append, hz]
      cases hfe : findE T p.at_ with
      | none =>
        rw [hfe] at h1 h2 h3
        have hc0 := h.none_ p.at_ hp hfe
        refine ⟨by simp [hc0], fun q hq hqa => ?_⟩
        rcases List.mem_append.1 hq with hq | hq
        · have := cnt_of_mem hq
          rw [hqa] at this; omega
        · obtain rfl : q = p := by simpa using hq
          rfl
      | some e0 =>
        rw [hfe] at h1
        simp only [Option.getD_some] at h1 ⊢
        have h4 := h.some_ _ _ hfe
        refine ⟨by rw [h4.1]; simp, fun q hq hqa => ?_⟩
        rcases List.mem_append.1 hq with hq | hq
        · rw [h4.2 q hq hqa, h1]
        · obtain rfl : q = p := by simpa using hq
          rfl
    · rw [if_neg e1] at he
      have h4 := h.some_ a e he
      have hz : cntM [p] a = 0 := by rw [cnt_cons, if_neg (fun c => e1 c.symm)]; rfl
      refine ⟨by rw [cnt_append, hz]; simpa using h4.1, fun q hq hqa => ?_⟩
      rcases List.mem_append.1 hq with hq | hq
      · exact h4.2 q hq hqa
      · obtain rfl : q = p := by simpa using hq
        exact absurd hqa.symm e1
  · rw [hf] at hn
    by_cases e1 : a = p.at_
    · subst e1; rw [if_pos rfl] at hn; cases hn
    · rw [if_neg e1] at hn
      have hz : cntM [p] a = 0 := by rw [cnt_cons, if_neg (fun c => e1 c.symm)]; rfl
      rw [cnt_append, hz, h.none_ a ha0 hn]
theorem tab_inv : ∀ (P P0 : List PtrM) (T0 T : List EntM), InvT P0 T0 → tabM P T0 = some T → InvT (P0 ++ P) T
  | [], P0, T0, T, h, ht => by
    have := (Option.some.inj ht)
    subst this
    simpa using h
  | p :: P, P0, T0, T, h, ht => by
    unfold tabM at ht
    have e : P0 ++ p :: P = (P0 ++ [p]) ++ P := by simp
    rw [e]
    split at ht
    · rename_i hp
      exact tab_inv P (P0 ++ [p]) T0 T (h.skip hp) ht
    · rename_i hp
      cases ha : addE T0 p.sum p.at_ with
      | none => rw [ha] at ht; cases ht
      | some T1 =>
        rw [ha] at ht
        exact tab_inv P (P0 ++ [p]) T1 T (h.add hp ha) ht

/-- The table E tells these pointers. -/
structure TellsM (P : List PtrM) (E : List EntM) : Prop where
  cnt : ∀ e ∈ E, (cntM P e.at_ : Int) = e.count
  sum : ∀ p ∈ P, p.at_ ≠ 0 → ∃ e, findE E p.at_ = some e ∧ e.sum = p.sum
theorem short_of {T E : List EntM} (ht : AscE T) (he : AscE E) (hs : ∀ a, (findE T a).isSome = true → (findE E a).isSome = true) {x : EntM} (hx : x ∈ E) (hn : findE T x.at_ = none) : T.length < E.length := by
  have h1 : T.map (·.at_) = (E.filter (fun e => (findE T e.at_).isSome)).map (·.at_) := by
    have hp : ∀ {U : List EntM}, AscE U → (U.map (·.at_)).Pairwise (fun a b => a < b) := fun hu => by rw [List.pairwise_map]; exact hu
    have hd : ∀ {l : List Int}, l.Pairwise (fun a b => a < b) → l.Nodup := fun hl => List.Pairwise.imp (fun hlt e => by subst e; omega) hl
    have p1 := hp ht
    have p2 := hp (U := E.filter (fun e => (findE T e.at_).isSome)) (List.Pairwise.sublist List.filter_sublist he)
    refine List.Perm.eq_of_pairwise (le := fun a b : Int => a < b) (fun a b _ _ h1 h2 => by omega) p1 p2 ((List.perm_ext_iff_of_nodup (hd p1) (hd p2)).2 fun a => ?_)
    constructor
    · intro ha
      obtain ⟨t, htm, rfl⟩ := List.mem_map.1 ha
      have hf := findE_mem ht htm
      obtain ⟨e, hfe⟩ := Option.isSome_iff_exists.1 (hs t.at_ (by rw [hf]; rfl))
      obtain ⟨m1, m2⟩ := findE_some hfe
      exact List.mem_map.2 ⟨e, List.mem_filter.2 ⟨m1, by rw [m2, hf]; rfl⟩, m2⟩
    · intro ha
      obtain ⟨e, hem, rfl⟩ := List.mem_map.1 ha
      obtain ⟨_, h2⟩ := List.mem_filter.1 hem
      obtain ⟨t, hft⟩ := Option.isSome_iff_exists.1 h2
      obtain ⟨m1, m2⟩ := findE_some hft
      exact List.mem_map.2 ⟨t, m1, m2⟩
  have h2 := congrArg List.length h1
  rw [List.length_map, List.length_map] at h2
  have h3 := filter_lt (p := fun e : EntM => (findE T e.at_).isSome) (q := fun _ => true) (fun _ _ => rfl) hx rfl (by simp [hn])
  have h4 : (E.filter (fun _ => true)).length = E.length := by rw [List.filter_eq_self.2 (fun _ _ => rfl)]
  omega
theorem tells_sub {P P0 : List PtrM} {E T0 : List EntM} (ht : TellsM (P0 ++ P) E) (h : InvT P0 T0) : ∀ a e, findE T0 a = some e → ∃ e', findE E a = some e' ∧ e'.sum = e.sum := by
  intro a e he
  obtain ⟨m1, m2⟩ := findE_some he
  have h1 := h.some_ a e he
  have h2 := (h.ok e m1)
  obtain ⟨p, hp, hpa⟩ := cnt_pos (P := P0) (a := a) (by have := h2.2.2.2.2.1; omega)
  obtain ⟨e', h3, h4⟩ := ht.sum p (List.mem_append_left _ hp) (by have := h2.2.2.1; omega)
  rw [hpa] at h3
  exact ⟨e', h3, by rw [h4, h1.2 p hp hpa]⟩
theorem tab_total : ∀ (P P0 : List PtrM) (T0 E : List EntM), DdtOkM E → TellsM (P0 ++ P) E → InvT P0 T0 → ∃ T, tabM P T0 = some T
  | [], P0, T0, E, _, _, _ => ⟨T0, rfl⟩
  | p :: P, P0, T0, E, hE, ht, h => by
    unfold tabM
    have e : P0 ++ p :: P = (P0 ++ [p]) ++ P := by simp
    split
    · rename_i hp
      exact tab_total P (P0 ++ [p]) T0 E hE (e ▸ ht) (h.skip hp)
    · rename_i hp
      obtain ⟨x, hx, hxs⟩ := ht.sum p (by simp) hp
      obtain ⟨m1, m2⟩ := findE_some hx
      have hxo : EntOkM x := by
        obtain ⟨i, hi, rfl⟩ := List.mem_iff_getElem.1 m1
        exact (hE.2 i hi hi).1
      have hcx := ht.cnt x m1
      have hcp : cntM (P0 ++ p :: P) p.at_ = cntM P0 p.at_ + (1 + cntM P p.at_) := by rw [cnt_append, cnt_cons, if_pos rfl]
      rw [m2, hcp] at hcx
      obtain ⟨o1, o2, o3, o4, o5, o6⟩ := hxo
      have hadd : ∃ T1, addE T0 p.sum p.at_ = some T1 := by
        cases hfe : findE T0 p.at_ with
        | none =>
          refine ⟨_, addE_intro (by rw [hfe]; rfl) (by rw [hfe]; exact ⟨by show 0 ≤ p.sum; omega, by show p.sum < 65521; omega, by show 1 ≤ p.at_; omega, by show p.at_ < 120; omega, by simp, by simp⟩) (fun _ h48 => ?_)⟩
          have := short_of h.asc (ascE_of_good hE.2) (fun a ha => by
            obtain ⟨e0, he0⟩ := Option.isSome_iff_exists.1 ha
            obtain ⟨e', he', _⟩ := tells_sub ht h a e0 he0
            rw [he']; rfl) m1 (by rw [m2]; exact hfe)
          have := hE.1
          omega
        | some e0 =>
          obtain ⟨e', he', hse⟩ := tells_sub ht h p.at_ e0 hfe
          rw [hx] at he'
          have he' := (Option.some.inj he').symm
          subst he'
          have h4 := h.some_ _ _ hfe
          have h5 := h.ok e0 (findE_some hfe).1
          obtain ⟨q1, q2, q3, q4, q5, q6⟩ := h5
          refine ⟨_, addE_intro (by rw [hfe]; show e0.sum = p.sum; omega) (by rw [hfe]; exact ⟨by show 0 ≤ p.sum; omega, by show p.sum < 65521; omega, by show 1 ≤ p.at_; omega, by show p.at_ < 120; omega, by show 1 ≤ e0.count + 1; omega, by show e0.count + 1 ≤ 1000; omega⟩) (fun hh => by rw [hfe] at hh; cases hh)⟩
      obtain ⟨T1, hT1⟩ := hadd
      rw [hT1]
      exact tab_total P (P0 ++ [p]) T1 E hE (e ▸ ht) (h.add hp hT1)
theorem tab_eq {P : List PtrM} {E T : List EntM} (hE : DdtOkM E) (ht : TellsM P E) (h : InvT P T) : T = E := by
  have hok : ∀ e ∈ E, EntOkM e := fun e he => by
    obtain ⟨i, hi, rfl⟩ := List.mem_iff_getElem.1 he
    exact (hE.2 i hi hi).1
  refine ext_findE h.asc (ascE_of_good hE.2) fun a => ?_
  cases hf : findE E a with
  | none =>
    cases hg : findE T a with
    | none => rfl
    | some e =>
      obtain ⟨e', he', _⟩ := tells_sub (P := []) (by simpa using ht) h a e hg
      rw [hf] at he'; cases he'
  | some x =>
    obtain ⟨m1, m2⟩ := findE_some hf
    have hx := hok x m1
    have hc := ht.cnt x m1
    rw [m2] at hc
    obtain ⟨o1, o2, o3, o4, o5, o6⟩ := hx
    cases hg : findE T a with
    | none =>
      have := h.none_ a (by omega) hg
      omega
    | some e =>
      obtain ⟨e', he', hse⟩ := tells_sub (P := []) (by simpa using ht) h a e hg
      rw [hf] at he'
      have he' := (Option.some.inj he').symm
      subst he'
      have h4 := (h.some_ a e hg).1
      obtain ⟨k1, k2⟩ := findE_some hg
      have : e = e' := by cases e; cases e'; simp only at hse k2 m2 h4 hc; simp only [EntM.mk.injEq]; omega
      rw [this]
/-- The sum of a table's counts. -/
def allM (E : List EntM) : Int := (E.map (·.count)).sum
theorem all_cnt {E : List EntM} (ha : AscE E) : ∀ P : List PtrM, (∀ p ∈ P, 0 ≤ p.at_) → (∀ e ∈ E, 1 ≤ e.at_) → (∀ p ∈ P, p.at_ ≠ 0 → (findE E p.at_).isSome = true) → (E.map fun e => ((cntM P e.at_ : Nat) : Int)).sum = (liveM P : Nat)
  | [], _, _, _ => by
    have : (E.map fun e => ((cntM [] e.at_ : Nat) : Int)) = E.map (fun _ => (0 : Int)) := by simp [cntM]
    rw [this]
    clear this
    have hz : ∀ l : List EntM, (l.map (fun _ => (0 : Int))).sum = 0 := fun l => by induction l with | nil => rfl | cons x l ih => simp [ih]
    rw [hz]; simp [liveM]
  | p :: P, h0, h1, h2 => by
    have ih := all_cnt ha P (fun q hq => h0 q (List.mem_cons_of_mem _ hq)) h1 (fun q hq => h2 q (List.mem_cons_of_mem _ hq))
    have hsplit : ∀ l : List EntM, (l.map fun e => ((cntM (p :: P) e.at_ : Nat) : Int)).sum = (l.map fun e => (if p.at_ = e.at_ then (1 : Int) else 0)).sum + (l.map fun e => ((cntM P e.at_ : Nat) : Int)).sum := fun l => by
      induction l with
      | nil => rfl
      | cons x l ihl =>
        simp only [List.map_cons, List.sum_cons]
        rw [ihl, cnt_cons]
        split <;> simp <;> omega
    rw [hsplit, ih]
    have hone : ∀ l : List EntM, AscE l → (l.map fun e => (if p.at_ = e.at_ then (1 : Int) else 0)).sum = if (findE l p.at_).isSome then 1 else 0 := fun l => by
      induction l with
      | nil => intro _; rfl
      | cons x l ihl =>
        intro hl
        have hp := List.pairwise_cons.1 hl
        simp only [List.map_cons, List.sum_cons]
        rw [ihl hp.2, findE_cons]
        by_cases hx : x.at_ = p.at_
        · rw [if_pos hx, if_pos hx.symm, findE_lt (fun y hy => by have := hp.1 y hy; omega)]
          simp
        · rw [if_neg hx, if_neg (fun c => hx c.symm)]
          simp
    rw [hone E ha]
    unfold liveM
    rw [List.countP_cons]
    have hp0 := h0 p (by simp)
    by_cases hz : p.at_ = 0
    · have hn : findE E p.at_ = none := by
        cases hf : findE E p.at_ with
        | none => rfl
        | some e => have := findE_some hf; have := h1 e this.1; omega
      rw [hn]
      simp [hz]
    · rw [if_pos (h2 p (by simp) hz)]
      have : decide (0 < p.at_) = true := by simp; omega
      rw [this]
      simp; omega
/-- THE TWO WAYS TO ASK WHETHER A TABLE TELLS ITS POINTERS ARE ONE. -/
theorem tab_iff {P : List PtrM} {E : List EntM} (hE : DdtOkM E) (hP : ∀ p ∈ P, PtrOkM p) :
    tabM P [] = some E ↔ ((∀ e ∈ E, (cntM P e.at_ : Int) = e.count) ∧ allM E = (liveM P : Nat)) ∧ (∀ p ∈ P, 0 < p.at_ → ∃ e, findE E p.at_ = some e ∧ e.sum = p.sum) := by
  have hp0 : ∀ p ∈ P, 0 ≤ p.at_ := fun p hp => by
    rcases hP p hp with h | h
    · have := h.1; omega
    · have := h.1; omega
  constructor
  · intro h
    have hi := tab_inv P [] [] E InvT.nil h
    rw [List.nil_append] at hi
    have hc : ∀ e ∈ E, (cntM P e.at_ : Int) = e.count := fun e he => (hi.some_ e.at_ e (findE_mem hi.asc he)).1.symm
    have hs : ∀ p ∈ P, p.at_ ≠ 0 → ∃ e, findE E p.at_ = some e ∧ e.sum = p.sum := fun p hp hpa => by
      cases hf : findE E p.at_ with
      | none => have := hi.none_ p.at_ hpa hf; have := cnt_of_mem hp; omega
      | some e => exact ⟨e, rfl, ((hi.some_ _ _ hf).2 p hp rfl).symm⟩
    refine ⟨⟨hc, ?_⟩, fun p hp hpa => hs p hp (by omega)⟩
    rw [← all_cnt hi.asc P hp0 (fun e he => (hi.ok e he).2.2.1) (fun p hp hpa => by obtain ⟨e, he, _⟩ := hs p hp hpa; rw [he]; rfl)]
    unfold allM
    congr 1
    exact List.map_congr_left fun e he => (hc e he).symm
  · rintro ⟨⟨hc, _⟩, hs⟩
    have ht : TellsM P E := ⟨hc, fun p hp hpa => hs p hp (by have := hp0 p hp; omega)⟩
    obtain ⟨T, hT⟩ := tab_total P [] [] E hE (by simpa using ht) InvT.nil
    have hi := tab_inv P [] [] T InvT.nil hT
    rw [List.nil_append] at hi
    rw [hT, tab_eq hE ht hi]
end Go.Proofs.YtojjenclcidnkaaGreatDoor

/-
  impl's table of blocks: a map from places to entries, read as the list of its entries by ascending places.
-/
set_option maxRecDepth 100000
namespace Go.Proofs.YtojjenclcidnkaaGreatDoor
open Go.ChangeShapes Go.WideShapes Go.ChangeAt Go.RowKit Go.Proofs.Palim Go.Maps

def zE : EntM := ⟨0, 0, 0⟩
/-- The map m has just these entries. -/
def MapE (w : World) (m : Nat) (T : List EntM) : Prop :=
  ∃ D, w.ownsMap Tryz.prog 3 entR m T.length D ∧ Maps.size D = T.length ∧ ∀ a : Int, (Lit.int .i64 a).wf = true → Maps.has D (.int .i64 a) = (findE T a).isSome ∧ D.atKey (.int .i64 a) (entD zE) = entD ((findE T a).getD zE)

section
variable {w : World} {m : Nat} {T : List EntM}
theorem keyE : Keyed Tryz.prog 3 := int_keyed Tryz.underlying3
theorem keyOfE {a : Int} (h : (Lit.int .i64 a).wf = true) : keyOf Tryz.prog 3 (.int .i64 a) = some (.int .i64 a) := keyOf_int_mk Tryz.underlying3 h
theorem ownsE_tight {R : Value → Option (DataW Unit × List MemPlace)} {n : Nat} {D : DataW Unit} (h : w.ownsMap Tryz.prog 3 R m n D) : w.ownsMap Tryz.prog 3 R m (Maps.size D) D := by
  obtain ⟨es, clock, hb, F, hs, rfl⟩ := h
  exact ⟨es, clock, hb, F, by simp [Maps.size, length_sorted], rfl⟩
theorem mapE_made (w : World) : MapE (w.alloc (.map #[] 0)) w.heap.size [] :=
  ⟨.map [], World.ownsMap_made w Tryz.prog 3 entR, rfl, fun a _ => ⟨rfl, rfl⟩⟩
theorem MapE.lt (h : MapE w m T) : m < w.heap.size := by obtain ⟨D, ho, _⟩ := h; exact ho.lt
theorem MapE.kept {w' : World} (h : MapE w m T) (hk : w'.heap[m]? = w.heap[m]?) : MapE w' m T := by
  obtain ⟨D, ⟨es, clock, hb, rest⟩, h2⟩ := h
  exact ⟨D, ⟨es, clock, hk.trans hb, rest⟩, h2⟩
theorem MapE.below {w' : World} {B : Nat} (h : MapE w m T) (hb : Below B w w') (hB : m < B) : MapE w' m T := h.kept (hb.block m hB)
theorem zeroEnt (w : World) : (zeroValue 135).run Tryz.prog w = .ok (entV zE) w := by kernel_rfl
def lookEV (o : Option EntM) : Value := .tuple #[entV (o.getD zE), .bool o.isSome]
theorem MapE.look (h : MapE w m T) {a : Int} (hs : (Lit.int .i64 a).wf = true) : (Instr.lookup 214 (.map (some m)) (.int .i64 a) true).run Tryz.prog w = .ok (lookEV (findE T a)) w := by
  obtain ⟨D, ho, _, hl⟩ := h
  obtain ⟨v, ps, hrun, hv⟩ := ho.look_ok keyE Tryz.underlying214 (zeroEnt w) (zd := entD zE) (zp := []) (entR_mk zE) (keyOfE hs)
  obtain ⟨h1, h2⟩ := hl a hs
  rw [hrun, h1]
  rw [h2] at hv
  unfold lookEV
  rw [entR_inv hv]
theorem MapE.look1 (h : MapE w m T) {a : Int} (hs : (Lit.int .i64 a).wf = true) : (Instr.lookup 214 (.map (some m)) (.int .i64 a) false).run Tryz.prog w = .ok (entV ((findE T a).getD zE)) w := by
  obtain ⟨D, ho, _, hl⟩ := h
  obtain ⟨v, ps, hrun, hv⟩ := ho.lookup keyE Tryz.underlying214 (zeroEnt w) (zd := entD zE) (zp := []) (entR_mk zE) (keyOfE hs)
  obtain ⟨h1, h2⟩ := hl a hs
  rw [hrun]
  rw [h2] at hv
  rw [entR_inv hv]
theorem MapE.len (h : MapE w m T) (ty : TypeId) : (Builtin.len_ #[214] ty #[.map (some m)]).run Tryz.prog w = .ok (.int .i64 (T.length : Int)) w := by
  obtain ⟨D, ho, hsz, _⟩ := h
  rw [ho.len Tryz.underlying214 ty, hsz]
theorem MapE.put (h : MapE w m T) (ha : AscE T) {x : EntM} (hs : (Lit.int .i64 x.at_).wf = true) (hlen : T.length < 1000000) :
    ∃ w', (Instr.mapUpdate 214 (.map (some m)) (.int .i64 x.at_) (entV x)).run Tryz.prog w = .ok () w' ∧ MapE w' m (putTb T x) ∧ w.mapTurned w' m := by
  obtain ⟨D, ho, hsz, hl⟩ := h
  obtain ⟨w', hrun, ho', hturn⟩ := ho.store keyE Tryz.underlying214 (by unfold maxLen; omega) (key := .int .i64 x.at_) (val := entV x) (d := entD x) (ps := []) (keyOfE hs) (entR_mk x)
  have hT := ho.tidy keyE
  have hs2 : Maps.size (D.put (.int .i64 x.at_) (entD x)) = (putTb T x).length := by rw [Maps.size_put hT, (hl _ hs).1, length_putM ha]; split <;> simp [hsz]
  refine ⟨w', hrun, ⟨_, hs2 ▸ ownsE_tight ho', hs2, fun b hb => ?_⟩, hturn⟩
  rw [findE_putM ha]
  by_cases e : b = x.at_
  · subst e
    rw [if_pos rfl, Maps.has_put_same hT.isMap (by simp [WideAt.IsKeyLit]), Maps.atKey_put_same hT.isMap (by simp [WideAt.IsKeyLit])]
    exact ⟨rfl, rfl⟩
  · have hne : (Lit.int .i64 b) ≠ .int .i64 x.at_ := fun c => e (by injection c)
    rw [if_neg e, Maps.has_put_other hne, Maps.atKey_put_other hne]
    exact hl b hb
theorem MapE.drop (h : MapE w m T) (ha : AscE T) {a : Int} (hs : (Lit.int .i64 a).wf = true) (ht : (findE T a).isSome = true) (ty : TypeId) :
    ∃ w', (Builtin.delete_ #[214, 3] ty #[.map (some m), .int .i64 a]).run Tryz.prog w = .ok (.tuple #[]) w' ∧ MapE w' m (delM T a) ∧ w.mapTurned w' m := by
  obtain ⟨D, ho, hsz, hl⟩ := h
  obtain ⟨w', hrun, ho', hturn⟩ := ho.drop keyE Tryz.underlying214 (key := .int .i64 a) (keyOfE hs) ty
  have hT := ho.tidy keyE
  have hs2 : Maps.size (D.del (.int .i64 a)) = (delM T a).length := by
    have h1 := Maps.size_del hT (k := .int .i64 a)
    rw [(hl _ hs).1, if_pos ht, hsz] at h1
    have h2 := delM_length ha ht
    omega
  refine ⟨w', hrun, ⟨_, hs2 ▸ ownsE_tight ho', hs2, fun b hb => ?_⟩, hturn⟩
  rw [findE_delM]
  by_cases e : b = a
  · subst e
    rw [if_pos rfl, Maps.has_del_same, Maps.atKey_del_same]
    exact ⟨rfl, rfl⟩
  · have hne : (Lit.int .i64 b) ≠ .int .i64 a := fun c => e (by injection c)
    rw [if_neg e, Maps.has_del_other hne, Maps.atKey_del_other hne]
    exact hl b hb
/-- The map's keys, sorted, are the places. -/
theorem keys_sorted {D : DataW Unit} {n : Nat} (ho : w.ownsMap Tryz.prog 3 entR m n D) (ha : AscE T) (hw : ∀ x ∈ T, (Lit.int .i64 x.at_).wf = true)
    (hl : ∀ a : Int, (Lit.int .i64 a).wf = true → Maps.has D (.int .i64 a) = (findE T a).isSome) {ss : List Int} (hp : ss.Perm (intKeys D)) : ss.mergeSort (fun x y => decide (x ≤ y)) = T.map (·.at_) := by
  have hnd : (T.map (·.at_)).Nodup := by
    unfold List.Nodup
    rw [List.pairwise_map]
    exact ha.imp fun h => by omega
  have hm : (T.map (·.at_)).Perm (intKeys D) := by
    obtain ⟨es, hD, hpw, _⟩ := ho.entries keyE
    obtain ⟨es', hD', hko⟩ := ho.keysOf
    obtain rfl : es = es' := by rw [hD] at hD'; simpa using hD'
    subst hD
    refine perm_intKeys hpw (fun p hp => by obtain ⟨v, hv⟩ := hko p hp; obtain ⟨x, _, hx, _⟩ := Maps.keyOf_i64 Tryz.underlying3 hv; exact ⟨x, hx⟩) hnd (fun x => ?_)
    constructor
    · intro hx
      obtain ⟨e, he, rfl⟩ := List.mem_map.1 hx
      rw [hl _ (hw e he), findE_mem ha he]
      rfl
    · intro hx
      have hwf : (Lit.int .i64 x).wf = true := by
        rw [Maps.has_eq, List.any_eq_true] at hx
        obtain ⟨p, hp', hs⟩ := hx
        refine intKeys_wf ho Tryz.underlying3 x (List.mem_map.2 ⟨p, hp', ?_⟩)
        obtain ⟨v, hv⟩ := hko p hp'
        obtain ⟨y, _, hy, _⟩ := Maps.keyOf_i64 Tryz.underlying3 hv
        rw [hy] at hs ⊢
        simpa [Lit.sameKey, Go.intOf] using hs
      rw [hl x hwf] at hx
      obtain ⟨e, he⟩ := Option.isSome_iff_exists.1 hx
      obtain ⟨h1, h2⟩ := findE_some he
      exact List.mem_map.2 ⟨e, h1, h2⟩
  rw [mergeSort_of_perm_i (hp.trans hm.symm)]
  refine List.mergeSort_of_pairwise ?_
  rw [List.pairwise_map]
  exact ha.imp fun h => by simp [leI]; omega
end
end Go.Proofs.YtojjenclcidnkaaGreatDoor

/-
  impl's table: opened, one more, one fewer.
-/
set_option maxRecDepth 100000
namespace Go.Proofs.YtojjenclcidnkaaGreatDoor
open Go.ChangeShapes Go.WideShapes Go.ChangeAt Go.RowKit Go.Proofs.Palim Go.Maps

theorem ent_wf {e : EntM} (h : EntOkM e) : (Lit.int .i64 e.at_).wf = true := wf_i64 (by have := h.2.2.1; omega) (by have := h.2.2.2.1; omega)
theorem ok_of_good {ls : List EntM} (h : GoodE ls ls.length) : ∀ e ∈ ls, EntOkM e := fun e he => by
  obtain ⟨i, hi, rfl⟩ := List.mem_iff_getElem.1 he
  exact (h i hi hi).1
theorem turned_map {S : Nat → Prop} {a w w' : World} {m : Nat} (h : Turned S a w) (ht : w.mapTurned w' m) (hm : S m ∨ a.heap.size ≤ m) : Turned S a w' := turned_grown h ht.grown (fun b e => by cases e; exact hm)
theorem mapE_box {w : World} {m b : Nat} {T : List EntM} {vs : List Value} (h : MapE w m T) (hx : Box w b vs) : b ≠ m := by
  rintro rfl
  obtain ⟨D, ⟨es, clock, hb, _⟩, _⟩ := h
  obtain ⟨c, e, hc, _⟩ := hx
  rw [hb] at hc
  cases hc
theorem MapE.setCell {w : World} {m : Nat} {T : List EntM} (h : MapE w m T) {p : Addr} (hp : m ≠ p.block) (u : Value) : MapE (w.setCell p u) m T := h.kept (Below.heap_setCell w p u m hp)
theorem MapE.alloc {w : World} {m : Nat} {T : List EntM} (h : MapE w m T) (o : Obj) : MapE (w.alloc o) m T := h.kept (Below.heap_alloc w o m h.lt)
theorem below_mapTurnedE {B : Nat} {w0 w w' : World} {m : Nat} (h : Below B w0 w) (ht : w.mapTurned w' m) (hm : B ≤ m) : Below B w0 w' :=
  h.grown ht.grown (Nat.le_trans hm (by obtain ⟨es, c, _, _, hb, _⟩ := ht; exact Nat.le_of_lt (Array.getElem?_eq_some_iff.1 hb).1)) (fun j hj => by cases hj; exact hm)

def OpenedE (w : World) (ls : List EntM) (e : Ending) (w' : World) : Prop := ∃ m, e = .returned (.map (some m)) ∧ MapE w' m ls ∧ w.heap.size ≤ m ∧ Below w.heap.size w w'

/-- What add and drop leave. -/
def AddedE (m : Nat) (T' : Option (List EntM)) (T : List EntM) (w : World) (e : Ending) (w' : World) : Prop :=
  e = .returned (.bool T'.isSome) ∧ MapE w' m (T'.getD T) ∧ Turned (fun b => b = m) w w'

set_option maxHeartbeats 4000000 in
theorem tadd_any (m : Nat) (T : List EntM) (s a : Int) (w : World) (h : MapE w m T) (hA : AscE T) (hok : ∀ e ∈ T, EntOkM e) (hlen : T.length ≤ 48) (hwf : (Lit.int .i64 a).wf = true) :
    Calls Tryz.prog 152 #[.map (some m), .int .i64 s, .int .i64 a] w (AddedE m (addE T s a) T w) := by
  have hnot : ∀ (x : Bool) (w : World), (Op.unary .not (.bool x)).run Tryz.prog w = .ok (.bool (!x)) w := fun _ _ => rfl
  have hlook := h.look hwf
  have HM := Lib.hid h
  have HA := Lib.hid hA
  have hml := h.lt
  obtain ⟨R, HR⟩ : ∃ R, Hid (addE T s a = R) := ⟨_, Lib.hid rfl⟩
  rw [HR.out]
  cases hf : findE T a with
  | some e0 =>
    obtain ⟨m1, m2⟩ := findE_some hf
    rw [hf] at hlook
    have hlook' : (Instr.lookup 214 (.map (some m)) (.int .i64 a) true).run Tryz.prog w = .ok (.tuple #[.agg #[.int .i64 e0.sum, .int .i64 e0.at_, .int .i64 e0.count], .bool true]) w := hlook
    obtain ⟨o1, o2, o3, o4, o5, o6⟩ := hok e0 m1
    have hwr : IntKind.wrap .i64 (e0.count + 1) = e0.count + 1 := IntWalk.i64_in _ (by omega)
    have HF := Lib.hid hf
    clear hlook hf h hok hA
    obtain ⟨s0, a0, c0⟩ := e0
    simp only at hlook' hwr o1 o2 o3 o4 o5 o6 m2
    subst m2
    by_cases hs : s0 = s
    case neg =>
      have hsq : (s0 != s) = true := by simpa using hs
      have hN := Lib.hid (show R = none from by
        rw [← HR.out]
        cases hx : addE T s a0 with
        | none => rfl
        | some T' => have := (addE_some hx).1; rw [HF.out] at this; exact absurd this hs)
      have HB := Lib.hid (Below.new1 (w := w) (.cells #[.int .i64 s0, .int .i64 a0, .int .i64 (c0 + 1)] 135))
      have HM1 := Lib.hid (HM.out.alloc (.cells #[.int .i64 s0, .int .i64 a0, .int .i64 (c0 + 1)] 135))
      go_enter Tryz.func152, Tryz.ntmps152
      go_wp2
      go_ret
      rw [hN.out]
      exact ⟨rfl, HM1.out, turned_of_below HB.out⟩
    case pos =>
    subst hs
    by_cases hok2 : EntOkM ⟨s0, a0, c0 + 1⟩
    case neg =>
      have hor := decide_eq_false hok2
      have hN := Lib.hid (show R = none from by
        rw [← HR.out]
        cases hx : addE T s0 a0 with
        | none => rfl
        | some T' => have := (addE_some hx).2.1; rw [HF.out] at this; exact absurd this hok2)
      have hB := Below.new1 (w := w) (.cells #[.int .i64 s0, .int .i64 a0, .int .i64 (c0 + 1)] 135)
      have HB := Lib.hid hB
      have HM1 := Lib.hid (HM.out.alloc (.cells #[.int .i64 s0, .int .i64 a0, .int .i64 (c0 + 1)] 135))
      clear hok2
      go_enter Tryz.func152, Tryz.ntmps152
      go_wp2_with fail
      refine (implEnt_is ⟨s0, a0, c0 + 1⟩ _ _ hor).mono ?_
      rintro e w2 ⟨rfl, hb2⟩
      have HB2 := Lib.hid (hB.trans (hb2.mono hB.size))
      have HM2 := Lib.hid (HM1.out.below hb2 HM1.out.lt)
      clear hb2 hB
      go_wp2
      go_ret
      rw [hN.out]
      exact ⟨rfl, HM2.out, turned_of_below HB2.out⟩
    case pos =>
    have hor := decide_eq_true hok2
    have hS := Lib.hid (show R = some (putTb T ⟨s0, a0, c0 + 1⟩) from by
      rw [← HR.out, addE_intro (by rw [HF.out]; rfl) (by rw [HF.out]; exact hok2) (fun hh => by rw [HF.out] at hh; cases hh), HF.out]
      rfl)
    have hB := Below.new1 (w := w) (.cells #[.int .i64 s0, .int .i64 a0, .int .i64 (c0 + 1)] 135)
    have HX := box_new w #[.int .i64 s0, .int .i64 a0, .int .i64 (c0 + 1)] 135
    have HM1 := Lib.hid (HM.out.alloc (.cells #[.int .i64 s0, .int .i64 a0, .int .i64 (c0 + 1)] 135))
    clear hok2
    go_enter Tryz.func152, Tryz.ntmps152
    go_wp2_with fail
    refine (implEnt_is ⟨s0, a0, c0 + 1⟩ _ _ hor).mono ?_
    rintro e w2 ⟨rfl, hb2⟩
    have HX2 := HX.below hb2 HX.lt
    obtain ⟨x0, x1, x2⟩ := HX2.three
    have HB2 := Lib.hid (hB.trans (hb2.mono hB.size))
    have HM2 := Lib.hid (HM1.out.below hb2 HM1.out.lt)
    have hrl := HM2.out.len 3
    obtain ⟨w3, hrun, hm3, ht3⟩ := HM2.out.put HA.out (x := ⟨s0, a0, c0 + 1⟩) hwf (by omega)
    have hrun' : (Instr.mapUpdate 214 (.map (some m)) (.int .i64 a0) (.agg #[.int .i64 s0, .int .i64 a0, .int .i64 (c0 + 1)])).run Tryz.prog w2 = .ok () w3 := hrun
    have HM3 := Lib.hid hm3
    have HT3 := Lib.hid (turned_map (S := fun b => b = m) (turned_of_below HB2.out) ht3 (Or.inl rfl))
    clear hb2 hB HX HX2 hrun hm3 ht3
    go_wp2
    go_ret
    rw [hS.out]
    exact ⟨rfl, HM3.out, HT3.out⟩
  | none =>
    rw [hf] at hlook
    have hlook' : (Instr.lookup 214 (.map (some m)) (.int .i64 a) true).run Tryz.prog w = .ok (.tuple #[.agg #[.int .i64 0, .int .i64 0, .int .i64 0], .bool false]) w := hlook
    have HF := Lib.hid hf
    clear hlook hf h hok hA
    by_cases hok2 : EntOkM ⟨s, a, 1⟩
    case neg =>
      have hor := decide_eq_false hok2
      have hN := Lib.hid (show R = none from by
        rw [← HR.out]
        cases hx : addE T s a with
        | none => rfl
        | some T' => have := (addE_some hx).2.1; rw [HF.out] at this; exact absurd this hok2)
      have hB := Below.new1 (w := w) (.cells #[.int .i64 s, .int .i64 a, .int .i64 (1)] 135)
      have HB := Lib.hid hB
      have HM1 := Lib.hid (HM.out.alloc (.cells #[.int .i64 s, .int .i64 a, .int .i64 (1)] 135))
      clear hok2
      go_enter Tryz.func152, Tryz.ntmps152
      go_wp2_with fail
      refine (implEnt_is ⟨s, a, 1⟩ _ _ hor).mono ?_
      rintro e w2 ⟨rfl, hb2⟩
      have HB2 := Lib.hid (hB.trans (hb2.mono hB.size))
      have HM2 := Lib.hid (HM1.out.below hb2 HM1.out.lt)
      clear hb2 hB
      go_wp2
      go_ret
      rw [hN.out]
      exact ⟨rfl, HM2.out, turned_of_below HB2.out⟩
    case pos =>
    have hor := decide_eq_true hok2
    by_cases h48 : T.length = 48
    case pos =>
      have hN := Lib.hid (show R = none from by
        rw [← HR.out]
        cases hx : addE T s a with
        | none => rfl
        | some T' => exact absurd h48 ((addE_some hx).2.2.1 (by rw [HF.out]; rfl)))
      have hB := Below.new1 (w := w) (.cells #[.int .i64 s, .int .i64 a, .int .i64 (1)] 135)
      have HX := box_new w #[.int .i64 s, .int .i64 a, .int .i64 (1)] 135
      have HM1 := Lib.hid (HM.out.alloc (.cells #[.int .i64 s, .int .i64 a, .int .i64 (1)] 135))
      clear hok2
      go_enter Tryz.func152, Tryz.ntmps152
      go_wp2_with fail
      refine (implEnt_is ⟨s, a, 1⟩ _ _ hor).mono ?_
      rintro e w2 ⟨rfl, hb2⟩
      have HX2 := HX.below hb2 HX.lt
      obtain ⟨x0, x1, x2⟩ := HX2.three
      have HB2 := Lib.hid (hB.trans (hb2.mono hB.size))
      have HM2 := Lib.hid (HM1.out.below hb2 HM1.out.lt)
      have hrl := HM2.out.len 3
      obtain ⟨w3, hrun, hm3, ht3⟩ := HM2.out.put HA.out (x := ⟨s, a, 1⟩) hwf (by omega)
      have hrun' : (Instr.mapUpdate 214 (.map (some m)) (.int .i64 a) (.agg #[.int .i64 s, .int .i64 a, .int .i64 (1)])).run Tryz.prog w2 = .ok () w3 := hrun
      have HM3 := Lib.hid hm3
      have HT3 := Lib.hid (turned_map (S := fun b => b = m) (turned_of_below HB2.out) ht3 (Or.inl rfl))
      clear hb2 hB HX HX2 hrun hm3 ht3
      rw [h48] at hrl
      clear hrun'
      go_wp2
      go_ret
      rw [hN.out]
      exact ⟨rfl, HM2.out, turned_of_below HB2.out⟩
    case neg =>
    have hq : ((T.length : Int) == 48) = false := by simp; omega
    have hq2 : ¬ (T.length : Int) = 48 := by omega
    have hS := Lib.hid (show R = some (putTb T ⟨s, a, 1⟩) from by
      rw [← HR.out, addE_intro (by rw [HF.out]; rfl) (by rw [HF.out]; exact hok2) (fun _ => h48), HF.out]
      rfl)
    have hB := Below.new1 (w := w) (.cells #[.int .i64 s, .int .i64 a, .int .i64 (1)] 135)
    have HX := box_new w #[.int .i64 s, .int .i64 a, .int .i64 (1)] 135
    have HM1 := Lib.hid (HM.out.alloc (.cells #[.int .i64 s, .int .i64 a, .int .i64 (1)] 135))
    clear hok2
    go_enter Tryz.func152, Tryz.ntmps152
    go_wp2_with fail
    refine (implEnt_is ⟨s, a, 1⟩ _ _ hor).mono ?_
    rintro e w2 ⟨rfl, hb2⟩
    have HX2 := HX.below hb2 HX.lt
    obtain ⟨x0, x1, x2⟩ := HX2.three
    have HB2 := Lib.hid (hB.trans (hb2.mono hB.size))
    have HM2 := Lib.hid (HM1.out.below hb2 HM1.out.lt)
    have hrl := HM2.out.len 3
    obtain ⟨w3, hrun, hm3, ht3⟩ := HM2.out.put HA.out (x := ⟨s, a, 1⟩) hwf (by omega)
    have hrun' : (Instr.mapUpdate 214 (.map (some m)) (.int .i64 a) (.agg #[.int .i64 s, .int .i64 a, .int .i64 (1)])).run Tryz.prog w2 = .ok () w3 := hrun
    have HM3 := Lib.hid hm3
    have HT3 := Lib.hid (turned_map (S := fun b => b = m) (turned_of_below HB2.out) ht3 (Or.inl rfl))
    clear hb2 hB HX HX2 hrun hm3 ht3
    go_wp2
    go_ret
    rw [hS.out]
    exact ⟨rfl, HM3.out, HT3.out⟩

/-- One fewer. -/
noncomputable def subE (T : List EntM) (a : Int) : Option (List EntM) := (findE T a).map fun e => if e.count = 1 then delM T a else putTb T ⟨e.sum, a, e.count - 1⟩

end Go.Proofs.YtojjenclcidnkaaGreatDoor
