/-
  Half of a write: spec's l2Torn and impl's diskTorn.
-/
import Derived.Test.YtobjgdnmlibofaaGreatDiskB
set_option maxRecDepth 100000
namespace Go.Proofs.YtobjgdnmlibofaaGreat
open Go.ChangeShapes Go.WideShapes Go.ChangeAt Go.RowKit Go.Proofs.Palim

/-- What a sector holds after half of a write to it. -/
def tornM (old now : ByteArray) : ByteArray := now.extract 0 (now.size / 2) ++ old.extract (min (now.size / 2) old.size) old.size

set_option maxHeartbeats 400000 in
theorem diskTorn_any (old now : ByteArray) (w : World) (h0 : old.size ≤ maxLen) (h1 : now.size ≤ maxLen) :
    Calls Tryz.prog 90 #[.string old, .string now] w (Drawn (.string (tornM old now)) w) := by
  unfold maxLen at h0 h1
  go_enter Tryz.func90, Tryz.ntmps90
  go_wp2_with fail
  go_quiet (fail)
  first
    | rw [show (if (old.size : Int) < (now.size : Int) / 2 then (old.size : Int) else (now.size : Int) / 2).toNat = min (now.size / 2) old.size from by split <;> omega]
    | rw [show (min ((now.size : Int) / 2) (old.size : Int)).toNat = min (now.size / 2) old.size from by omega]
  go_wp2
  all_goals
    go_ret
    exact ⟨rfl, nq, rfl⟩

set_option maxHeartbeats 400000 in
theorem l2Torn_any (old now : ByteArray) (w : World) (h0 : old.size ≤ maxLen) (h1 : now.size ≤ maxLen) :
    Calls Tryz.prog 88 #[.string old, .string now] w (Drawn (.string (tornM old now)) w) := by
  unfold maxLen at h0 h1
  by_cases hc : now.size / 2 < old.size
  · go_enter Tryz.func88, Tryz.ntmps88
    go_wp2_with fail
    go_quiet (fail)
    go_wp2
    go_ret
    exact ⟨ret_str (show now.extract 0 (now.size / 2) ++ old.extract (now.size / 2) old.size = tornM old now from by unfold tornM; rw [Nat.min_eq_left (by omega)]), nq, rfl⟩
  · go_enter Tryz.func88, Tryz.ntmps88
    go_wp2
    go_ret
    refine ⟨ret_str (show now.extract 0 (now.size / 2) = tornM old now from ?_), 0, rfl⟩
    unfold tornM
    rw [Nat.min_eq_right (by omega)]
    apply ByteArray.ext
    simp [ByteArray.data_append, ByteArray.data_extract]
theorem tornM_size {old now : ByteArray} {B : Nat} (h0 : old.size ≤ B) (h1 : now.size ≤ B) : (tornM old now).size ≤ B := by
  unfold tornM
  rw [ByteArray.size_append, ByteArray.size_extract, ByteArray.size_extract]
  omega

/-- Each late write with what becomes of it. -/
def pairs : List LateM → List Int → List (LateM × Int)
  | [], _ => []
  | l :: ls, [] => (l, 0) :: pairs ls []
  | l :: ls, f :: fs => (l, f) :: pairs ls fs
theorem pairs_len (ls : List LateM) : ∀ fs, (pairs ls fs).length = ls.length := by
  induction ls with
  | nil => intro fs; rfl
  | cons l ls ih => intro fs; cases fs <;> simp [pairs, ih]
theorem pairs_at (ls : List LateM) : ∀ (fs : List Int) (k : Nat) (h : k < (pairs ls fs).length) (h' : k < ls.length), (pairs ls fs)[k] = (ls[k], fs.getD k 0) := by
  induction ls with
  | nil => intro fs k h h'; cases h'
  | cons l ls ih =>
    intro fs k h h'
    cases fs with
    | nil => cases k with
      | zero => simp [pairs]
      | succ k => simp only [pairs, List.getElem_cons_succ]; rw [ih _ _ _ (by simpa using h')]; simp
    | cons f fs => cases k with
      | zero => simp [pairs]
      | succ k => simp only [pairs, List.getElem_cons_succ]; rw [ih _ _ _ (by simpa using h')]; simp
/-- The text of a sector of two sides. -/
def sectOf (p : List ByteArray × List ByteArray) (side : Int) (k : Nat) : ByteArray := (if side = 0 then p.1 else p.2).getD k ⟨#[]⟩
def fallStep (p : List ByteArray × List ByteArray) (x : LateM × Int) : List ByteArray × List ByteArray :=
  if x.2 = 1 then layM p x.1.side x.1.at_.toNat x.1.text else if x.2 = 2 then layM p x.1.side x.1.at_.toNat (tornM (sectOf p x.1.side x.1.at_.toNat) x.1.text) else p
def fallAll (p : List ByteArray × List ByteArray) (xs : List (LateM × Int)) : List ByteArray × List ByteArray := xs.foldl fallStep p
theorem fallAll_snoc (p : List ByteArray × List ByteArray) (xs : List (LateM × Int)) (x : LateM × Int) : fallAll p (xs ++ [x]) = fallStep (fallAll p xs) x := by simp [fallAll]
theorem fallStep_len (p : List ByteArray × List ByteArray) (x : LateM × Int) : (fallStep p x).1.length = p.1.length ∧ (fallStep p x).2.length = p.2.length := by
  unfold fallStep
  split
  · exact layM_len _ _ _ _
  · split
    · exact layM_len _ _ _ _
    · exact ⟨rfl, rfl⟩
theorem fallAll_len (xs : List (LateM × Int)) : ∀ p : List ByteArray × List ByteArray, (fallAll p xs).1.length = p.1.length ∧ (fallAll p xs).2.length = p.2.length := by
  induction xs with
  | nil => intro p; exact ⟨rfl, rfl⟩
  | cons x xs ih =>
    intro p
    have h := ih (fallStep p x)
    have h2 := fallStep_len p x
    exact ⟨h.1.trans h2.1, h.2.trans h2.2⟩
theorem fallAll_none (xs : List (LateM × Int)) (h : ∀ x ∈ xs, x.2 = 0) : ∀ p, fallAll p xs = p := by
  induction xs with
  | nil => intro p; rfl
  | cons x xs ih =>
    intro p
    show fallAll (fallStep p x) xs = p
    rw [ih (fun y hy => h y (by simp [hy]))]
    unfold fallStep
    rw [h x (by simp), if_neg (by omega), if_neg (by omega)]
theorem pairs_late {ls : List LateM} {fs : List Int} {k : Nat} (hk : fs.length ≤ k ∨ ls.length ≤ k) : ∀ x ∈ (pairs ls fs).drop k, x.2 = 0 := by
  intro x hx
  obtain ⟨i, hi, rfl⟩ := List.mem_iff_getElem.1 hx
  have hl := pairs_len ls fs
  rw [List.length_drop, hl] at hi
  rw [List.getElem_drop, pairs_at ls fs (k + i) (by omega) (by omega)]
  rcases hk with h | h
  · simp [List.getD, List.getElem?_eq_none (show fs.length ≤ k + i by omega)]
  · omega
theorem fallAll_take {p : List ByteArray × List ByteArray} {ls : List LateM} {fs : List Int} {k : Nat} (hk : fs.length ≤ k ∨ ls.length ≤ k) : fallAll p ((pairs ls fs).take k) = fallAll p (pairs ls fs) := by
  have h : fallAll p (pairs ls fs) = fallAll (fallAll p ((pairs ls fs).take k)) ((pairs ls fs).drop k) := by
    unfold fallAll
    rw [← List.foldl_append, List.take_append_drop]
  rw [h, fallAll_none _ (pairs_late hk)]
def fallM (d : DiskM) (fs : List Int) : DiskM := if DiskOkM d then ⟨(fallAll (d.s0, d.s1) (pairs d.late fs)).1, (fallAll (d.s0, d.s1) (pairs d.late fs)).2, []⟩ else noDisk
theorem sectOf_all {P : ByteArray → Prop} {p : List ByteArray × List ByteArray} (h0 : ∀ s ∈ p.1, P s) (h1 : ∀ s ∈ p.2, P s) (he : P ⟨#[]⟩) (side : Int) (k : Nat) : P (sectOf p side k) := by
  unfold sectOf
  split
  · rcases Nat.lt_or_ge k p.1.length with h | h
    · rw [show p.1.getD k ⟨#[]⟩ = p.1[k] by simp [List.getD, List.getElem?_eq_getElem h]]; exact h0 _ (List.getElem_mem h)
    · rw [show p.1.getD k ⟨#[]⟩ = ⟨#[]⟩ by simp [List.getD, List.getElem?_eq_none h]]; exact he
  · rcases Nat.lt_or_ge k p.2.length with h | h
    · rw [show p.2.getD k ⟨#[]⟩ = p.2[k] by simp [List.getD, List.getElem?_eq_getElem h]]; exact h1 _ (List.getElem_mem h)
    · rw [show p.2.getD k ⟨#[]⟩ = ⟨#[]⟩ by simp [List.getD, List.getElem?_eq_none h]]; exact he
theorem layM_all {P : ByteArray → Prop} {p : List ByteArray × List ByteArray} (h0 : ∀ s ∈ p.1, P s) (h1 : ∀ s ∈ p.2, P s) {t : ByteArray} (ht : P t) (side : Int) (k : Nat) : (∀ s ∈ (layM p side k t).1, P s) ∧ ∀ s ∈ (layM p side k t).2, P s := by
  have hset : ∀ {ss : List ByteArray}, (∀ s ∈ ss, P s) → ∀ s ∈ ss.set k t, P s := fun h s hs => by
    rcases List.mem_or_eq_of_mem_set hs with h' | h'
    · exact h s h'
    · exact h' ▸ ht
  unfold layM
  split
  · exact ⟨hset h0, h1⟩
  · exact ⟨h0, hset h1⟩
theorem fallAll_all {B : Nat} (xs : List (LateM × Int)) (hx : ∀ x ∈ xs, x.1.text.size ≤ B) : ∀ p : List ByteArray × List ByteArray, (∀ s ∈ p.1, s.size ≤ B) → (∀ s ∈ p.2, s.size ≤ B) → (∀ s ∈ (fallAll p xs).1, s.size ≤ B) ∧ ∀ s ∈ (fallAll p xs).2, s.size ≤ B := by
  induction xs with
  | nil => intro p h0 h1; exact ⟨h0, h1⟩
  | cons x xs ih =>
    intro p h0 h1
    have ht := hx x (by simp)
    have h := show (∀ s ∈ (fallStep p x).1, s.size ≤ B) ∧ ∀ s ∈ (fallStep p x).2, s.size ≤ B from by
      unfold fallStep
      split
      · exact layM_all h0 h1 ht _ _
      · split
        · exact layM_all h0 h1 (tornM_size (sectOf_all (P := fun s => s.size ≤ B) h0 h1 (Nat.zero_le _) _ _) ht) _ _
        · exact ⟨h0, h1⟩
    exact ih (fun y hy => hx y (by simp [hy])) _ h.1 h.2
theorem pairs_text {B : Nat} {ls : List LateM} (h : ∀ l ∈ ls, l.text.size ≤ B) (fs : List Int) : ∀ x ∈ pairs ls fs, x.1.text.size ≤ B := by
  intro x hx
  obtain ⟨i, hi, rfl⟩ := List.mem_iff_getElem.1 hx
  have hl := pairs_len ls fs
  rw [pairs_at ls fs i hi (by omega)]
  exact h _ (List.getElem_mem _)
theorem short_fall {d : DiskM} {fs : List Int} (h : DiskShort d) : DiskShort (fallM d fs) := by
  unfold fallM
  split
  · have hl := fallAll_len (pairs d.late fs) (d.s0, d.s1)
    have ha := fallAll_all (B := 1048576) (pairs d.late fs) (pairs_text h.zl fs) (d.s0, d.s1) h.z0 h.z1
    exact ⟨by rw [hl.1]; exact h.n0, by rw [hl.2]; exact h.n1, by simp, ha.1, ha.2, by simp⟩
  · exact short_no
theorem sect_at {p : List ByteArray × List ByteArray} {side : Int} {k : Nat} {u : Value} (h : (side = 0 ∧ (scs p.1)[k]? = some u) ∨ (side = 1 ∧ (scs p.2)[k]? = some u)) : u = .string (sectOf p side k) := by
  unfold sectOf
  rcases h with ⟨rfl, h⟩ | ⟨rfl, h⟩
  · have hk := (List.getElem?_eq_some_iff.1 h).1
    rw [scs_length] at hk
    rw [scs_at _ _ hk] at h
    simp [List.getD, List.getElem?_eq_getElem hk, ← Option.some.inj h]
  · have hk := (List.getElem?_eq_some_iff.1 h).1
    rw [scs_length] at hk
    rw [scs_at _ _ hk] at h
    simp [List.getD, List.getElem?_eq_getElem hk, ← Option.some.inj h]
end Go.Proofs.YtobjgdnmlibofaaGreat
