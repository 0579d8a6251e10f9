/-
  What a book is, and when following From ends at a volume that comes from nothing: the mathematics, of no program.
-/
import Derived.Test.YtobjgdnmlibofaaGreatSetEq
set_option maxRecDepth 100000
namespace Go.Proofs.YtobjgdnmlibofaaGreat
open Go Go.Proofs.Palim

/-- Go's '<' on texts. -/
def Lt (a b : ByteArray) : Prop := Op.bytesLess a.toList b.toList = true
instance (a b : ByteArray) : Decidable (Lt a b) := by unfold Lt; exact inferInstance
theorem bl_irr : ∀ l : List UInt8, Op.bytesLess l l = false
  | [] => rfl
  | a :: l => by simp [Op.bytesLess, bl_irr l]
theorem bl_trans : ∀ {a b c : List UInt8}, Op.bytesLess a b = true → Op.bytesLess b c = true → Op.bytesLess a c = true
  | [], _ :: _, _ :: _, _, _ => rfl
  | _, [], _, h, _ => by simp [Op.bytesLess] at h
  | _, _ :: _, [], _, h => by simp [Op.bytesLess] at h
  | x :: a, y :: b, z :: c, h, k => by
    simp only [Op.bytesLess, Bool.or_eq_true, decide_eq_true_eq, Bool.and_eq_true, beq_iff_eq] at h k ⊢
    rcases h with h | ⟨rfl, h⟩ <;> rcases k with k | ⟨rfl, k⟩
    · exact Or.inl (UInt8.lt_trans h k)
    · exact Or.inl h
    · exact Or.inl k
    · exact Or.inr ⟨rfl, bl_trans h k⟩
theorem bl_total : ∀ {a b : List UInt8}, Op.bytesLess a b = false → Op.bytesLess b a = false → a = b
  | [], [], _, _ => rfl
  | [], _ :: _, h, _ => by simp [Op.bytesLess] at h
  | _ :: _, [], _, h => by simp [Op.bytesLess] at h
  | x :: a, y :: b, h, k => by
    simp only [Op.bytesLess, Bool.or_eq_false_iff, decide_eq_false_iff_not, Bool.and_eq_false_iff, beq_eq_false_iff_ne] at h k
    have e : x = y := by
      have h1 := h.1
      have h2 := k.1
      exact UInt8.le_antisymm (UInt8.not_lt.1 h2) (UInt8.not_lt.1 h1)
    subst e
    rw [bl_total (h.2.resolve_left (fun f => f rfl)) (k.2.resolve_left (fun f => f rfl))]
theorem toList_inj {a b : ByteArray} (h : a.toList = b.toList) : a = b := by
  have h1 := beq_toListBytes a b
  rw [bytes_beq, h] at h1
  simpa using h1
theorem Lt.irr (a : ByteArray) : ¬ Lt a a := by unfold Lt; rw [bl_irr]; simp
theorem Lt.trans {a b c : ByteArray} (h : Lt a b) (k : Lt b c) : Lt a c := bl_trans h k
theorem Lt.total {a b : ByteArray} (h : ¬ Lt a b) (k : ¬ Lt b a) : a = b := toList_inj (bl_total (by simpa [Lt] using h) (by simpa [Lt] using k))
theorem Lt.ne {a b : ByteArray} (h : Lt a b) : a ≠ b := fun e => by subst e; exact Lt.irr a h

/-- A set, whatever the others are. -/
def SetOkM (x : SetM) : Prop := NameOk x.name ∧ (x.kind = 1 ∨ x.kind = 2) ∧ ∀ s ∈ x.bs, s.size ≤ 24
instance (x : SetM) : Decidable (SetOkM x) := by unfold SetOkM; exact inferInstance
/-- Names that ascend. -/
def Asc (ls : List SetM) : Prop := ls.Pairwise (fun a b => Lt a.name b.name)
instance (ls : List SetM) : Decidable (Asc ls) := by unfold Asc; exact inferInstance
/-- The set of a name. -/
def findM (ls : List SetM) (s : ByteArray) : Option SetM := ls.find? (fun x => decide (x.name = s))
/-- Following From, n sets far. -/
def rootsM (ls : List SetM) : Nat → SetM → Bool
  | 0, _ => false
  | n + 1, x => if x.kind = 1 ∧ x.frm.size = 0 then true else
    match findM ls x.frm with
    | none => false
    | some y => if y.kind = x.kind then false else rootsM ls n y
/-- What a book is. -/
def BookOkM (ls : List SetM) : Prop := ls.length ≤ 6 ∧ (∀ x ∈ ls, SetOkM x) ∧ Asc ls ∧ ∀ x ∈ ls, rootsM ls ls.length x = true
instance (ls : List SetM) : Decidable (BookOkM ls) := by unfold BookOkM; exact inferInstance

theorem findM_mem {ls : List SetM} {s : ByteArray} {y : SetM} (h : findM ls s = some y) : y ∈ ls ∧ y.name = s := by
  unfold findM at h
  exact ⟨List.mem_of_find?_eq_some h, by simpa using List.find?_some h⟩
theorem rootsM_mono (ls : List SetM) : ∀ n x, rootsM ls n x = true → rootsM ls (n + 1) x = true
  | 0, x, h => by simp [rootsM] at h
  | n + 1, x, h => by
    rw [rootsM] at h ⊢
    split at h
    · rename_i h1; rw [if_pos h1]
    · rename_i h1
      rw [if_neg h1]
      cases hf : findM ls x.frm with
      | none => rw [hf] at h; exact h
      | some y =>
        rw [hf] at h
        simp only at h ⊢
        split at h
        · cases h
        · rename_i h2; rw [if_neg h2]; exact rootsM_mono ls n y h
theorem filter_lt {α : Type} {p q : α → Bool} (hpq : ∀ x, p x = true → q x = true) : ∀ {l : List α} {x : α}, x ∈ l → q x = true → p x = false → (l.filter p).length < (l.filter q).length
  | a :: l, x, hx, hq, hp => by
    have hle : (l.filter p).length ≤ (l.filter q).length := by
      clear hx hq hp
      induction l with
      | nil => exact Nat.le_refl _
      | cons b l ih =>
        simp only [List.filter_cons]
        by_cases h1 : p b = true
        · rw [if_pos h1, if_pos (hpq b h1)]; simpa using ih
        · rw [if_neg h1]
          split
          · simp; omega
          · exact ih
    rcases List.mem_cons.1 hx with rfl | hx
    · simp only [List.filter_cons, hq, hp]
      simp; omega
    · have ih := filter_lt hpq hx hq hp
      simp only [List.filter_cons]
      by_cases h1 : p a = true
      · rw [if_pos h1, if_pos (hpq a h1)]; simpa using ih
      · rw [if_neg h1]
        split
        · simp; omega
        · exact ih
theorem roots_rank (ls : List SetM) : ∀ k x, x ∈ ls → rootsM ls (k + 1) x = true → rootsM ls k x = false → k + 1 ≤ (ls.filter (fun y => rootsM ls (k + 1) y)).length
  | 0, x, hx, h1, _ => by
    have : x ∈ ls.filter (fun y => rootsM ls 1 y) := List.mem_filter.2 ⟨hx, h1⟩
    exact List.length_pos_of_mem this
  | k + 1, x, hx, h1, h0 => by
    have h2 := h1
    rw [rootsM] at h2
    have h3 := h0
    rw [rootsM] at h3
    split at h2
    · rename_i hr; rw [if_pos hr] at h3; cases h3
    · rename_i hr
      rw [if_neg hr] at h3
      cases hf : findM ls x.frm with
      | none => rw [hf] at h2; cases h2
      | some y =>
        rw [hf] at h2 h3
        simp only at h2 h3
        split at h2
        · cases h2
        · rename_i hk
          rw [if_neg hk] at h3
          have ih := roots_rank ls k y (findM_mem hf).1 h2 h3
          have := filter_lt (p := fun y => rootsM ls (k + 1) y) (q := fun y => rootsM ls (k + 1 + 1) y) (fun z hz => rootsM_mono ls _ z hz) hx h1 h0
          omega
/-- One more step finds nothing more. -/
theorem roots_more (ls : List SetM) {x : SetM} (hx : x ∈ ls) : rootsM ls (ls.length + 1) x = rootsM ls ls.length x := by
  cases h0 : rootsM ls ls.length x with
  | true => exact rootsM_mono ls _ x h0
  | false =>
    cases h1 : rootsM ls (ls.length + 1) x with
    | false => rfl
    | true =>
      have h2 := roots_rank ls ls.length x hx h1 h0
      have h3 := List.length_filter_le (fun y => rootsM ls (ls.length + 1) y) ls
      omega

/-- The place of a name, or that where it belongs. -/
def atM (ls : List SetM) (s : ByteArray) : Nat := (ls.takeWhile (fun x => decide (Lt x.name s))).length
def thereM (ls : List SetM) (s : ByteArray) : Bool := match ls[atM ls s]? with | some x => decide (x.name = s) | none => false
theorem atM_le (ls : List SetM) (s : ByteArray) : atM ls s ≤ ls.length := by
  unfold atM
  induction ls with
  | nil => exact Nat.le_refl _
  | cons a l ih =>
    simp only [List.takeWhile_cons]
    split
    · simpa using ih
    · simp
theorem find_at : ∀ {ls : List SetM} {s : ByteArray}, Asc ls → findM ls s = (if thereM ls s then ls[atM ls s]? else none)
  | [], s, _ => by simp [findM, thereM, atM]
  | a :: l, s, h => by
    have hl : Asc l := (List.pairwise_cons.1 h).2
    have ha := (List.pairwise_cons.1 h).1
    by_cases hlt : Lt a.name s
    · have e1 : atM (a :: l) s = atM l s + 1 := by simp [atM, hlt]
      have e2 : thereM (a :: l) s = thereM l s := by simp [thereM, e1]
      have e3 : findM (a :: l) s = findM l s := by
        unfold findM
        rw [List.find?_cons, decide_eq_false hlt.ne]
      rw [e3, find_at hl, e2, e1]
      simp
    · have e1 : atM (a :: l) s = 0 := by simp [atM, hlt]
      by_cases he : a.name = s
      · have e2 : thereM (a :: l) s = true := by simp [thereM, e1, he]
        rw [e2, e1]
        simp [findM, he]
      · have e2 : thereM (a :: l) s = false := by simp [thereM, e1, he]
        rw [e2]
        have hgt : Lt s a.name := by
          by_cases hg : Lt s a.name
          · exact hg
          · exact absurd (Lt.total hlt hg) he
        simp only [Bool.false_eq_true, if_false]
        unfold findM
        rw [List.find?_eq_none]
        intro x hx
        rcases List.mem_cons.1 hx with rfl | hx
        · simpa using he
        · have := (hgt.trans (ha x hx)).ne
          simpa using fun e => this e.symm
end Go.Proofs.YtobjgdnmlibofaaGreat
