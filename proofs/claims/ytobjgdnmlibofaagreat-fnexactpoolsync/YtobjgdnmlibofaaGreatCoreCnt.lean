/-
  Counting pointers: the table that they make, and when it is a given one: the mathematics, of no program.
-/
import Derived.Test.YtobjgdnmlibofaaGreatTabM
import Derived.Test.YtobjgdnmlibofaaGreatPtr
import Derived.Test.YtobjgdnmlibofaaGreatBookMath
set_option maxRecDepth 100000
namespace Go.Proofs.YtobjgdnmlibofaaGreat
open Go Go.Proofs.Palim

/-- The table that these pointers make of one. -/
noncomputable def tabM : List PtrM → List EntM → Option (List EntM)
  | [], T => some T
  | p :: P, T => if p.at_ = 0 then tabM P T else (addE T p.sum p.at_).bind (tabM P)
def cntM (P : List PtrM) (a : Int) : Nat := P.countP (fun p => decide (p.at_ = a))
def liveM (P : List PtrM) : Nat := P.countP (fun p => decide (0 < p.at_))
theorem cnt_cons (p : PtrM) (P : List PtrM) (a : Int) : cntM (p :: P) a = (if p.at_ = a then 1 else 0) + cntM P a := by
  unfold cntM
  rw [List.countP_cons]
  by_cases h : p.at_ = a <;> simp [h] <;> omega
theorem cnt_append (P Q : List PtrM) (a : Int) : cntM (P ++ Q) a = cntM P a + cntM Q a := by unfold cntM; rw [List.countP_append]
theorem cnt_pos {P : List PtrM} {a : Int} (h : 0 < cntM P a) : ∃ p ∈ P, p.at_ = a := by
  obtain ⟨p, hp, h2⟩ := List.countP_pos_iff.1 h
  exact ⟨p, hp, by simpa using h2⟩
theorem cnt_of_mem {P : List PtrM} {p : PtrM} (h : p ∈ P) : 0 < cntM P p.at_ := List.countP_pos_iff.2 ⟨p, h, by simp⟩
/-- What the table says of the pointers that it was made of. -/
structure InvT (P : List PtrM) (T : List EntM) : Prop where
  asc : AscE T
  ok : ∀ e ∈ T, EntOkM e
  len : T.length ≤ 48
  some_ : ∀ a e, findE T a = some e → e.count = (cntM P a : Nat) ∧ ∀ p ∈ P, p.at_ = a → p.sum = e.sum
  none_ : ∀ a, a ≠ 0 → findE T a = none → cntM P a = 0
theorem InvT.nil : InvT [] [] := ⟨List.Pairwise.nil, by simp, by simp, fun a e h => by simp [findE_nil] at h, fun a _ _ => rfl⟩
theorem InvT.skip {P : List PtrM} {T : List EntM} (h : InvT P T) {p : PtrM} (hp : p.at_ = 0) : InvT (P ++ [p]) T := by
  refine ⟨h.asc, h.ok, h.len, fun a e he => ?_, fun a ha hn => ?_⟩
  · obtain ⟨h1, h2⟩ := findE_some he
    have h3 := (h.ok e h1).2.2.1
    have h4 := h.some_ a e he
    have hz : cntM [p] a = 0 := by rw [cnt_cons, if_neg (by omega)]; rfl
    refine ⟨by rw [cnt_append, hz]; simpa using h4.1, fun q hq hqa => ?_⟩
    rcases List.mem_append.1 hq with hq | hq
    · exact h4.2 q hq hqa
    · obtain rfl : q = p := by simpa using hq
      omega
  · have hz : cntM [p] a = 0 := by rw [cnt_cons, if_neg (by omega)]; rfl
    rw [cnt_append, hz, h.none_ a ha hn]
theorem InvT.add {P : List PtrM} {T T' : List EntM} (h : InvT P T) {p : PtrM} (hp : p.at_ ≠ 0) (ha : addE T p.sum p.at_ = some T') : InvT (P ++ [p]) T' := by
  obtain ⟨h1, h2, h3, rfl⟩ := addE_some ha
  have hf := findE_putM h.asc (x := ⟨p.sum, p.at_, ((findE T p.at_).getD ⟨p.sum, p.at_, 0⟩).count + 1⟩)
  simp only at hf
  refine ⟨asc_putM h.asc _, fun e he => ?_, ?_, fun a e he => ?_, fun a ha0 hn => ?_⟩
  · rcases mem_putM he with rfl | he
    · exact h2
    · exact h.ok e he
  · rw [length_putM h.asc]
    simp only
    split
    · exact h.len
    · rename_i hh
      have := h3 (by simpa using hh)
      have := h.len
      omega
  · rw [hf] at he
    by_cases e1 : a = p.at_
    · subst e1
      rw [if_pos rfl] at he
      have he := (Option.some.inj he).symm
      subst he
      simp only
      have hz : cntM [p] p.at_ = 1 := by rw [cnt_cons, if_pos rfl]; rfl
      rw [cnt_append, hz]
      cases hfe : findE T p.at_ with
      | none =>
        rw [hfe] at h1 h2 h3
        have hc0 := h.none_ p.at_ hp hfe
        refine ⟨by simp [hc0], fun q hq hqa => ?_⟩
        rcases List.mem_append.1 hq with hq | hq
        · have := cnt_of_mem hq
          rw [hqa] at this; omega
        · obtain rfl : q = p := by simpa using hq
          rfl
      | some e0 =>
        rw [hfe] at h1
        simp only [Option.getD_some] at h1 ⊢
        have h4 := h.some_ _ _ hfe
        refine ⟨by rw [h4.1]; simp, fun q hq hqa => ?_⟩
        rcases List.mem_append.1 hq with hq | hq
        · rw [h4.2 q hq hqa, h1]
        · obtain rfl : q = p := by simpa using hq
          rfl
    · rw [if_neg e1] at he
      have h4 := h.some_ a e he
      have hz : cntM [p] a = 0 := by rw [cnt_cons, if_neg (fun c => e1 c.symm)]; rfl
      refine ⟨by rw [cnt_append, hz]; simpa using h4.1, fun q hq hqa => ?_⟩
      rcases List.mem_append.1 hq with hq | hq
      · exact h4.2 q hq hqa
      · obtain rfl : q = p := by simpa using hq
        exact absurd hqa.symm e1
  · rw [hf] at hn
    by_cases e1 : a = p.at_
    · subst e1; rw [if_pos rfl] at hn; cases hn
    · rw [if_neg e1] at hn
      have hz : cntM [p] a = 0 := by rw [cnt_cons, if_neg (fun c => e1 c.symm)]; rfl
      rw [cnt_append, hz, h.none_ a ha0 hn]
theorem tab_inv : ∀ (P P0 : List PtrM) (T0 T : List EntM), InvT P0 T0 → tabM P T0 = some T → InvT (P0 ++ P) T
  | [], P0, T0, T, h, ht => by
    have := (Option.some.inj ht)
    subst this
    simpa using h
  | p :: P, P0, T0, T, h, ht => by
    unfold tabM at ht
    have e : P0 ++ p :: P = (P0 ++ [p]) ++ P := by simp
    rw [e]
    split at ht
    · rename_i hp
      exact tab_inv P (P0 ++ [p]) T0 T (h.skip hp) ht
    · rename_i hp
      cases ha : addE T0 p.sum p.at_ with
      | none => rw [ha] at ht; cases ht
      | some T1 =>
        rw [ha] at ht
        exact tab_inv P (P0 ++ [p]) T1 T (h.add hp ha) ht

/-- The table E tells these pointers. -/
structure TellsM (P : List PtrM) (E : List EntM) : Prop where
  cnt : ∀ e ∈ E, (cntM P e.at_ : Int) = e.count
  sum : ∀ p ∈ P, p.at_ ≠ 0 → ∃ e, findE E p.at_ = some e ∧ e.sum = p.sum
theorem short_of {T E : List EntM} (ht : AscE T) (he : AscE E) (hs : ∀ a, (findE T a).isSome = true → (findE E a).isSome = true) {x : EntM} (hx : x ∈ E) (hn : findE T x.at_ = none) : T.length < E.length := by
  have h1 : T.map (·.at_) = (E.filter (fun e => (findE T e.at_).isSome)).map (·.at_) := by
    have hp : ∀ {U : List EntM}, AscE U → (U.map (·.at_)).Pairwise (fun a b => a < b) := fun hu => by rw [List.pairwise_map]; exact hu
    have hd : ∀ {l : List Int}, l.Pairwise (fun a b => a < b) → l.Nodup := fun hl => List.Pairwise.imp (fun hlt e => by subst e; omega) hl
    have p1 := hp ht
    have p2 := hp (U := E.filter (fun e => (findE T e.at_).isSome)) (List.Pairwise.sublist List.filter_sublist he)
    refine List.Perm.eq_of_pairwise (le := fun a b : Int => a < b) (fun a b _ _ h1 h2 => by omega) p1 p2 ((List.perm_ext_iff_of_nodup (hd p1) (hd p2)).2 fun a => ?_)
    constructor
    · intro ha
      obtain ⟨t, htm, rfl⟩ := List.mem_map.1 ha
      have hf := findE_mem ht htm
      obtain ⟨e, hfe⟩ := Option.isSome_iff_exists.1 (hs t.at_ (by rw [hf]; rfl))
      obtain ⟨m1, m2⟩ := findE_some hfe
      exact List.mem_map.2 ⟨e, List.mem_filter.2 ⟨m1, by rw [m2, hf]; rfl⟩, m2⟩
    · intro ha
      obtain ⟨e, hem, rfl⟩ := List.mem_map.1 ha
      obtain ⟨_, h2⟩ := List.mem_filter.1 hem
      obtain ⟨t, hft⟩ := Option.isSome_iff_exists.1 h2
      obtain ⟨m1, m2⟩ := findE_some hft
      exact List.mem_map.2 ⟨t, m1, m2⟩
  have h2 := congrArg List.length h1
  rw [List.length_map, List.length_map] at h2
  have h3 := filter_lt (p := fun e : EntM => (findE T e.at_).isSome) (q := fun _ => true) (fun _ _ => rfl) hx rfl (by simp [hn])
  have h4 : (E.filter (fun _ => true)).length = E.length := by rw [List.filter_eq_self.2 (fun _ _ => rfl)]
  omega
theorem tells_sub {P P0 : List PtrM} {E T0 : List EntM} (ht : TellsM (P0 ++ P) E) (h : InvT P0 T0) : ∀ a e, findE T0 a = some e → ∃ e', findE E a = some e' ∧ e'.sum = e.sum := by
  intro a e he
  obtain ⟨m1, m2⟩ := findE_some he
  have h1 := h.some_ a e he
  have h2 := (h.ok e m1)
  obtain ⟨p, hp, hpa⟩ := cnt_pos (P := P0) (a := a) (by have := h2.2.2.2.2.1; omega)
  obtain ⟨e', h3, h4⟩ := ht.sum p (List.mem_append_left _ hp) (by have := h2.2.2.1; omega)
  rw [hpa] at h3
  exact ⟨e', h3, by rw [h4, h1.2 p hp hpa]⟩
theorem tab_total : ∀ (P P0 : List PtrM) (T0 E : List EntM), DdtOkM E → TellsM (P0 ++ P) E → InvT P0 T0 → ∃ T, tabM P T0 = some T
  | [], P0, T0, E, _, _, _ => ⟨T0, rfl⟩
  | p :: P, P0, T0, E, hE, ht, h => by
    unfold tabM
    have e : P0 ++ p :: P = (P0 ++ [p]) ++ P := by simp
    split
    · rename_i hp
      exact tab_total P (P0 ++ [p]) T0 E hE (e ▸ ht) (h.skip hp)
    · rename_i hp
      obtain ⟨x, hx, hxs⟩ := ht.sum p (by simp) hp
      obtain ⟨m1, m2⟩ := findE_some hx
      have hxo : EntOkM x := by
        obtain ⟨i, hi, rfl⟩ := List.mem_iff_getElem.1 m1
        exact (hE.2 i hi hi).1
      have hcx := ht.cnt x m1
      have hcp : cntM (P0 ++ p :: P) p.at_ = cntM P0 p.at_ + (1 + cntM P p.at_) := by rw [cnt_append, cnt_cons, if_pos rfl]
      rw [m2, hcp] at hcx
      obtain ⟨o1, o2, o3, o4, o5, o6⟩ := hxo
      have hadd : ∃ T1, addE T0 p.sum p.at_ = some T1 := by
        cases hfe : findE T0 p.at_ with
        | none =>
          refine ⟨_, addE_intro (by rw [hfe]; rfl) (by rw [hfe]; exact ⟨by show 0 ≤ p.sum; omega, by show p.sum < 65521; omega, by show 1 ≤ p.at_; omega, by show p.at_ < 120; omega, by simp, by simp⟩) (fun _ h48 => ?_)⟩
          have := short_of h.asc (ascE_of_good hE.2) (fun a ha => by
            obtain ⟨e0, he0⟩ := Option.isSome_iff_exists.1 ha
            obtain ⟨e', he', _⟩ := tells_sub ht h a e0 he0
            rw [he']; rfl) m1 (by rw [m2]; exact hfe)
          have := hE.1
          omega
        | some e0 =>
          obtain ⟨e', he', hse⟩ := tells_sub ht h p.at_ e0 hfe
          rw [hx] at he'
          have he' := (Option.some.inj he').symm
          subst he'
          have h4 := h.some_ _ _ hfe
          have h5 := h.ok e0 (findE_some hfe).1
          obtain ⟨q1, q2, q3, q4, q5, q6⟩ := h5
          refine ⟨_, addE_intro (by rw [hfe]; show e0.sum = p.sum; omega) (by rw [hfe]; exact ⟨by show 0 ≤ p.sum; omega, by show p.sum < 65521; omega, by show 1 ≤ p.at_; omega, by show p.at_ < 120; omega, by show 1 ≤ e0.count + 1; omega, by show e0.count + 1 ≤ 1000; omega⟩) (fun hh => by rw [hfe] at hh; cases hh)⟩
      obtain ⟨T1, hT1⟩ := hadd
      rw [hT1]
      exact tab_total P (P0 ++ [p]) T1 E hE (e ▸ ht) (h.add hp hT1)
theorem tab_eq {P : List PtrM} {E T : List EntM} (hE : DdtOkM E) (ht : TellsM P E) (h : InvT P T) : T = E := by
  have hok : ∀ e ∈ E, EntOkM e := fun e he => by
    obtain ⟨i, hi, rfl⟩ := List.mem_iff_getElem.1 he
    exact (hE.2 i hi hi).1
  refine ext_findE h.asc (ascE_of_good hE.2) fun a => ?_
  cases hf : findE E a with
  | none =>
    cases hg : findE T a with
    | none => rfl
    | some e =>
      obtain ⟨e', he', _⟩ := tells_sub (P := []) (by simpa using ht) h a e hg
      rw [hf] at he'; cases he'
  | some x =>
    obtain ⟨m1, m2⟩ := findE_some hf
    have hx := hok x m1
    have hc := ht.cnt x m1
    rw [m2] at hc
    obtain ⟨o1, o2, o3, o4, o5, o6⟩ := hx
    cases hg : findE T a with
    | none =>
      have := h.none_ a (by omega) hg
      omega
    | some e =>
      obtain ⟨e', he', hse⟩ := tells_sub (P := []) (by simpa using ht) h a e hg
      rw [hf] at he'
      have he' := (Option.some.inj he').symm
      subst he'
      have h4 := (h.some_ a e hg).1
      obtain ⟨k1, k2⟩ := findE_some hg
      have : e = e' := by cases e; cases e'; simp only at hse k2 m2 h4 hc; simp only [EntM.mk.injEq]; omega
      rw [this]
/-- The sum of a table's counts. -/
def allM (E : List EntM) : Int := (E.map (·.count)).sum
theorem all_cnt {E : List EntM} (ha : AscE E) : ∀ P : List PtrM, (∀ p ∈ P, 0 ≤ p.at_) → (∀ e ∈ E, 1 ≤ e.at_) → (∀ p ∈ P, p.at_ ≠ 0 → (findE E p.at_).isSome = true) → (E.map fun e => ((cntM P e.at_ : Nat) : Int)).sum = (liveM P : Nat)
  | [], _, _, _ => by
    have : (E.map fun e => ((cntM [] e.at_ : Nat) : Int)) = E.map (fun _ => (0 : Int)) := by simp [cntM]
    rw [this]
    clear this
    have hz : ∀ l : List EntM, (l.map (fun _ => (0 : Int))).sum = 0 := fun l => by induction l with | nil => rfl | cons x l ih => simp [ih]
    rw [hz]; simp [liveM]
  | p :: P, h0, h1, h2 => by
    have ih := all_cnt ha P (fun q hq => h0 q (List.mem_cons_of_mem _ hq)) h1 (fun q hq => h2 q (List.mem_cons_of_mem _ hq))
    have hsplit : ∀ l : List EntM, (l.map fun e => ((cntM (p :: P) e.at_ : Nat) : Int)).sum = (l.map fun e => (if p.at_ = e.at_ then (1 : Int) else 0)).sum + (l.map fun e => ((cntM P e.at_ : Nat) : Int)).sum := fun l => by
      induction l with
      | nil => rfl
      | cons x l ihl =>
        simp only [List.map_cons, List.sum_cons]
        rw [ihl, cnt_cons]
        split <;> simp <;> omega
    rw [hsplit, ih]
    have hone : ∀ l : List EntM, AscE l → (l.map fun e => (if p.at_ = e.at_ then (1 : Int) else 0)).sum = if (findE l p.at_).isSome then 1 else 0 := fun l => by
      induction l with
      | nil => intro _; rfl
      | cons x l ihl =>
        intro hl
        have hp := List.pairwise_cons.1 hl
        simp only [List.map_cons, List.sum_cons]
        rw [ihl hp.2, findE_cons]
        by_cases hx : x.at_ = p.at_
        · rw [if_pos hx, if_pos hx.symm, findE_lt (fun y hy => by have := hp.1 y hy; omega)]
          simp
        · rw [if_neg hx, if_neg (fun c => hx c.symm)]
          simp
    rw [hone E ha]
    unfold liveM
    rw [List.countP_cons]
    have hp0 := h0 p (by simp)
    by_cases hz : p.at_ = 0
    · have hn : findE E p.at_ = none := by
        cases hf : findE E p.at_ with
        | none => rfl
        | some e => have := findE_some hf; have := h1 e this.1; omega
      rw [hn]
      simp [hz]
    · rw [if_pos (h2 p (by simp) hz)]
      have : decide (0 < p.at_) = true := by simp; omega
      rw [this]
      simp; omega
/-- THE TWO WAYS TO ASK WHETHER A TABLE TELLS ITS POINTERS ARE ONE. -/
theorem tab_iff {P : List PtrM} {E : List EntM} (hE : DdtOkM E) (hP : ∀ p ∈ P, PtrOkM p) :
    tabM P [] = some E ↔ ((∀ e ∈ E, (cntM P e.at_ : Int) = e.count) ∧ allM E = (liveM P : Nat)) ∧ (∀ p ∈ P, 0 < p.at_ → ∃ e, findE E p.at_ = some e ∧ e.sum = p.sum) := by
  have hp0 : ∀ p ∈ P, 0 ≤ p.at_ := fun p hp => by
    rcases hP p hp with h | h
    · have := h.1; omega
    · have := h.1; omega
  constructor
  · intro h
    have hi := tab_inv P [] [] E InvT.nil h
    rw [List.nil_append] at hi
    have hc : ∀ e ∈ E, (cntM P e.at_ : Int) = e.count := fun e he => (hi.some_ e.at_ e (findE_mem hi.asc he)).1.symm
    have hs : ∀ p ∈ P, p.at_ ≠ 0 → ∃ e, findE E p.at_ = some e ∧ e.sum = p.sum := fun p hp hpa => by
      cases hf : findE E p.at_ with
      | none => have := hi.none_ p.at_ hpa hf; have := cnt_of_mem hp; omega
      | some e => exact ⟨e, rfl, ((hi.some_ _ _ hf).2 p hp rfl).symm⟩
    refine ⟨⟨hc, ?_⟩, fun p hp hpa => hs p hp (by omega)⟩
    rw [← all_cnt hi.asc P hp0 (fun e he => (hi.ok e he).2.2.1) (fun p hp hpa => by obtain ⟨e, he, _⟩ := hs p hp hpa; rw [he]; rfl)]
    unfold allM
    congr 1
    exact List.map_congr_left fun e he => (hc e he).symm
  · rintro ⟨⟨hc, _⟩, hs⟩
    have ht : TellsM P E := ⟨hc, fun p hp hpa => hs p hp (by have := hp0 p hp; omega)⟩
    obtain ⟨T, hT⟩ := tab_total P [] [] E hE (by simpa using ht) InvT.nil
    have hi := tab_inv P [] [] T InvT.nil hT
    rw [List.nil_append] at hi
    rw [hT, tab_eq hE ht hi]
end Go.Proofs.YtobjgdnmlibofaaGreat
