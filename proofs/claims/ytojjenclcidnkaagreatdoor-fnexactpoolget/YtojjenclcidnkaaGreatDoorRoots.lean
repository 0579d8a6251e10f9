/-
  Texts joined into one.
-/
import Derived.Test.YtojjenclcidnkaaGreatDoorDdtOk
import Derived.Deep.RegionHeld3
import Derived.Test.YtojjenclcidnkaaGreatDoorSetEq
import Derived.Test.YtojjenclcidnkaaGreatDoorData
import Derived.BigQuiet

/-
  Where an entry lies: l5At and DdtCount, spec's and impl's.
-/
set_option maxRecDepth 100000
namespace Go.Proofs.YtojjenclcidnkaaGreatDoor
open Go.ChangeShapes Go.WideShapes Go.ChangeAt Go.RowKit Go.Proofs.Palim

/-- The place of an entry, or that where it belongs. -/
def AtP (ls : List EntM) (a : Int) (k : Nat) : Prop := k ≤ ls.length ∧ (∀ (i : Nat) (h : i < ls.length), i < k → ls[i].at_ < a) ∧ (∀ h : k < ls.length, ¬ ls[k].at_ < a)
def ThereP (ls : List EntM) (a : Int) (k : Nat) : Prop := ∃ h : k < ls.length, ls[k].at_ = a
def findE (ls : List EntM) (a : Int) : Option EntM := ls.find? (fun e => e.at_ == a)
noncomputable def countM (ls : List EntM) (a : Int) : Int := if DdtOkM ls then (findE ls a).elim 0 (·.count) else 0
theorem goodE_lt {ls : List EntM} (h : GoodE ls ls.length) {i j : Nat} (hij : i < j) (hj : j < ls.length) : (ls[i]'(by omega)).at_ < ls[j].at_ := by
  induction j with
  | zero => omega
  | succ j ih =>
    have h1 := (h (j + 1) hj hj).2 (by omega)
    simp only [Nat.add_sub_cancel] at h1
    by_cases e : i = j
    · subst e; exact h1
    · have h2 := ih (by omega) (by omega); omega
theorem find_first {ls : List EntM} {a : Int} {k : Nat} (hk : k < ls.length) (h : ls[k].at_ = a) (hb : ∀ (i : Nat) (h : i < ls.length), i < k → ls[i].at_ ≠ a) : findE ls a = some ls[k] := by
  unfold findE
  rw [List.find?_eq_some_iff_getElem]
  refine ⟨by simpa using h, k, hk, rfl, fun j hj => ?_⟩
  have := hb j (by omega) hj
  simpa using this
theorem find_none {ls : List EntM} {a : Int} (h : ∀ (i : Nat) (h : i < ls.length), ls[i].at_ ≠ a) : findE ls a = none := by
  unfold findE
  rw [List.find?_eq_none]
  intro x hx
  obtain ⟨i, hi, rfl⟩ := List.getElem_of_mem hx
  simpa using h i hi
theorem at_there {ls : List EntM} {a : Int} {k : Nat} (h : AtP ls a k) (ht : ThereP ls a k) : ∃ hk : k < ls.length, findE ls a = some ls[k] := by
  obtain ⟨hk, e⟩ := ht
  exact ⟨hk, find_first hk e fun i hi hik => by have := h.2.1 i hi hik; omega⟩
theorem at_none {ls : List EntM} {a : Int} {k : Nat} (hok : GoodE ls ls.length) (h : AtP ls a k) (ht : ¬ ThereP ls a k) : ∀ (i : Nat) (h : i < ls.length), ls[i].at_ ≠ a := by
  intro i hi e
  by_cases h1 : i < k
  · have := h.2.1 i hi h1; omega
  · by_cases h2 : i = k
    · subst h2; exact ht ⟨hi, e⟩
    · have h3 := h.2.2 (by omega)
      have h4 := goodE_lt hok (show k < i by omega) hi
      omega

def AtPost (ls : List EntM) (a : Int) (w : World) (e : Ending) (w' : World) : Prop :=
  ∃ (k : Nat) (r : Bool), e = .returned (.tuple #[.int .i64 (k : Int), .bool r]) ∧ AtP ls a k ∧ (r = true ↔ ThereP ls a k) ∧ Below w.heap.size w w'

set_option maxHeartbeats 1000000 in
theorem l5At_any (v : Value) (ls : List EntM) (a : Int) (w : World) (h : Sl w 3 v ls.length (ecs ls)) (hv : Low w.heap.size v) :
    Calls Tryz.prog 129 #[v, .int .i64 a] w (AtPost ls a w) := by
  obtain ⟨n, HL⟩ : ∃ n, Hid (ls.length = n) := ⟨_, Lib.hid rfl⟩
  rw [HL.out] at h
  have hnm := h.le
  unfold maxLen at hnm
  by_cases hn0 : n = 0
  · subst hn0
    have HE := Lib.hid (List.length_eq_zero_iff.1 HL.out)
    obtain ⟨_, A, c, rfl, _, _, _⟩ := h
    go_enter Tryz.func129, Tryz.ntmps129
    go_wp2
    go_loopw [6] (fun i wr => i = .int .i64 0 ∧ wr = w) (fun _ _ => 0)
    case atStart => exact ⟨rfl, rfl⟩
    case round =>
      obtain ⟨rfl, rfl⟩ := hrel
      go_wp2_with fail
      go_quiet (fail)
      go_wp2
      refine bodyPost_ret (v := .tuple #[.int .i64 0, .bool false]) (by simp [results, Tryz.results129, go_sem]) rfl ?_
      exact ⟨0, false, rfl, ⟨Nat.zero_le _, fun i _ h => absurd h (Nat.not_lt_zero _), fun h => by rw [HE.out] at h; exact absurd h (Nat.lt_irrefl _)⟩, ⟨fun h => (by cases h), fun ⟨h, _⟩ => by rw [HE.out] at h; exact absurd h (Nat.lt_irrefl _)⟩, ⟨rfl, rfl, rfl, Nat.le_refl _, fun _ _ => rfl⟩⟩
  obtain ⟨b, off, c, rfl, hnc, hcm, hcell⟩ := h.form (by omega)
  have hbl : b < w.heap.size := hv b rfl
  have HC := Lib.hid hcell
  unfold maxLen at hcm
  clear hcell h hv
  go_enter Tryz.func129, Tryz.ntmps129
  go_wp2
  go_loopw [6] (fun i wr => ∃ (k : Nat), k ≤ n ∧ i = .int .i64 k ∧ wr = w ∧ Hid (∀ (i : Nat) (h : i < ls.length), i < k → ls[i].at_ < a)) (fun i _ => n - (intOf i).toNat)
  case atStart => exact ⟨0, Nat.zero_le _, rfl, rfl, Lib.hid (fun j _ h => absurd h (Nat.not_lt_zero _))⟩
  case round =>
    obtain ⟨k, hk, rfl, rfl, HG⟩ := hrel
    by_cases hlt : k < n
    case pos =>
      have hl0 : k < ls.length := by rw [HL.out]; exact hlt
      obtain ⟨g0, g1, g2⟩ := ent_read HC.out k hl0
      have hk1 : (k : Int) < (n : Int) := by omega
      have HS := Lib.hid (show ls[k].at_ < a → ∀ (i : Nat) (h : i < ls.length), i < k + 1 → ls[i].at_ < a from fun h i hi hik => by
        by_cases e : i = k
        · subst e; exact h
        · exact HG.out i hi (by omega))
      have HP := Lib.hid (show ¬ ls[k].at_ < a → AtP ls a k from fun h => ⟨by omega, HG.out, fun _ => h⟩)
      have HT := Lib.hid (show ls[k].at_ = a ↔ ThereP ls a k from ⟨fun h => ⟨hl0, h⟩, fun ⟨_, h⟩ => h⟩)
      generalize ls[k] = y at g0 g1 g2 HS HP HT
      clear hl0 HG
      by_cases hya : y.at_ < a
      case pos =>
        have HS1 := Lib.hid (HS.out hya)
        clear HS HP HT
        go_wp2
        go_roundw
        case rel => exact ⟨k + 1, by omega, by go_num, by first | rfl | trivial, HS1⟩
        case measure => simp [intOf]; omega
      case neg =>
        have HP1 := Lib.hid (HP.out hya)
        clear HS HP
        by_cases hye : y.at_ = a
        case pos =>
          have HT1 := Lib.hid (HT.out.1 hye)
          have hyq : (y.at_ == a) = true := by simpa using hye
          have hyd : decide (y.at_ = a) = true := by simpa using hye
          clear HT hye
          go_wp2_with fail
          go_quiet (fail)
          go_wp2
          refine bodyPost_ret (v := .tuple #[.int .i64 (k : Int), .bool true]) (by simp [results, Tryz.results129, go_sem]) rfl ?_
          exact ⟨k, true, rfl, HP1.out, ⟨fun _ => HT1.out, fun _ => rfl⟩, ⟨rfl, rfl, rfl, Nat.le_refl _, fun _ _ => rfl⟩⟩
        case neg =>
          have HT1 := Lib.hid (fun h => hye (HT.out.2 h))
          have hyq : (y.at_ == a) = false := by simpa using hye
          have hyd : decide (y.at_ = a) = false := by simpa using hye
          clear HT hye
          go_wp2_with fail
          go_quiet (fail)
          go_wp2
          refine bodyPost_ret (v := .tuple #[.int .i64 (k : Int), .bool false]) (by simp [results, Tryz.results129, go_sem]) rfl ?_
          exact ⟨k, false, rfl, HP1.out, ⟨fun h => (by cases h), fun h => absurd h HT1.out⟩, ⟨rfl, rfl, rfl, Nat.le_refl _, fun _ _ => rfl⟩⟩
    case neg =>
      have HP1 := Lib.hid (show AtP ls a k from ⟨by rw [HL.out]; exact hk, HG.out, fun h => absurd h (by rw [HL.out]; exact hlt)⟩)
      have HT1 := Lib.hid (show ¬ ThereP ls a k from fun ⟨h, _⟩ => absurd h (by rw [HL.out]; exact hlt))
      have hkn : ¬ (k : Int) < (n : Int) := by omega
      go_wp2_with fail
      go_quiet (fail)
      go_wp2
      refine bodyPost_ret (v := .tuple #[.int .i64 (k : Int), .bool false]) (by simp [results, Tryz.results129, go_sem]) rfl ?_
      exact ⟨k, false, rfl, HP1.out, ⟨fun h => (by cases h), fun h => absurd h HT1.out⟩, ⟨rfl, rfl, rfl, Nat.le_refl _, fun _ _ => rfl⟩⟩
theorem ret_int' {a b : Int} (h : a = b) : Ending.returned (.int .i64 a) = Ending.returned (.int .i64 b) := by rw [h]

end Go.Proofs.YtojjenclcidnkaaGreatDoor

/-
  What a book is, and when following From ends at a volume that comes from nothing: the mathematics, of no program.
-/
set_option maxRecDepth 100000
namespace Go.Proofs.YtojjenclcidnkaaGreatDoor
open Go Go.Proofs.Palim

/-- Go's '<' on texts. -/
def Lt (a b : ByteArray) : Prop := Op.bytesLess a.toList b.toList = true
instance (a b : ByteArray) : Decidable (Lt a b) := by unfold Lt; exact inferInstance
theorem bl_irr : ∀ l : List UInt8, Op.bytesLess l l = false
  | [] => rfl
  | a :: l => by simp [Op.bytesLess, bl_irr l]
theorem bl_trans : ∀ {a b c : List UInt8}, Op.bytesLess a b = true → Op.bytesLess b c = true → Op.bytesLess a c = true
  | [], _ :: _, _ :: _, _, _ => rfl
  | _, [], _, h, _ => by simp [Op.bytesLess] at h
  | _, _ :: _, [], _, h => by simp [Op.bytesLess] at h
  | x :: a, y :: b, z :: c, h, k => by
    simp only [Op.bytesLess, Bool.or_eq_true, decide_eq_true_eq, Bool.and_eq_true, beq_iff_eq] at h k ⊢
    rcases h with h | ⟨rfl, h⟩ <;> rcases k with k | ⟨rfl, k⟩
    · exact Or.inl (UInt8.lt_trans h k)
    · exact Or.inl h
    · exact Or.inl k
    · exact Or.inr ⟨rfl, bl_trans h k⟩
theorem bl_total : ∀ {a b : List UInt8}, Op.bytesLess a b = false → Op.bytesLess b a = false → a = b
  | [], [], _, _ => rfl
  | [], _ :: _, h, _ => by simp [Op.bytesLess] at h
  | _ :: _, [], _, h => by simp [Op.bytesLess] at h
  | x :: a, y :: b, h, k => by
    simp only [Op.bytesLess, Bool.or_eq_false_iff, decide_eq_false_iff_not, Bool.and_eq_false_iff, beq_eq_false_iff_ne] at h k
    have e : x = y := by
      have h1 := h.1
      have h2 := k.1
      exact UInt8.le_antisymm (UInt8.not_lt.1 h2) (UInt8.not_lt.1 h1)
    subst e
    rw [bl_total (h.2.resolve_left (fun f => f rfl)) (k.2.resolve_left (fun f => f rfl))]
theorem toList_inj {a b : ByteArray} (h : a.toList = b.toList) : a = b := by
  have h1 := beq_toListBytes a b
  rw [bytes_beq, h] at h1
  simpa using h1
theorem Lt.irr (a : ByteArray) : ¬ Lt a a := by unfold Lt; rw [bl_irr]; simp
theorem Lt.trans {a b c : ByteArray} (h : Lt a b) (k : Lt b c) : Lt a c := bl_trans h k
theorem Lt.total {a b : ByteArray} (h : ¬ Lt a b) (k : ¬ Lt b a) : a = b := toList_inj (bl_total (by simpa [Lt] using h) (by simpa [Lt] using k))
theorem Lt.ne {a b : ByteArray} (h : Lt a b) : a ≠ b := fun e => by subst e; exact Lt.irr a h

/-- A set, whatever the others are. -/
def SetOkM (x : SetM) : Prop := NameOk x.name ∧ (x.kind = 1 ∨ x.kind = 2) ∧ ∀ s ∈ x.bs, s.size ≤ 24
instance (x : SetM) : Decidable (SetOkM x) := by unfold SetOkM; exact inferInstance
/-- Names that ascend. -/
def Asc (ls : List SetM) : Prop := ls.Pairwise (fun a b => Lt a.name b.name)
instance (ls : List SetM) : Decidable (Asc ls) := by unfold Asc; exact inferInstance
/-- The set of a name. -/
def findM (ls : List SetM) (s : ByteArray) : Option SetM := ls.find? (fun x => decide (x.name = s))
/-- Following From, n sets far. -/
def rootsM (ls : List SetM) : Nat → SetM → Bool
  | 0, _ => false
  | n + 1, x => if x.kind = 1 ∧ x.frm.size = 0 then true else
    match findM ls x.frm with
    | none => false
    | some y => if y.kind = x.kind then false else rootsM ls n y
/-- What a book is. -/
def BookOkM (ls : List SetM) : Prop := ls.length ≤ 6 ∧ (∀ x ∈ ls, SetOkM x) ∧ Asc ls ∧ ∀ x ∈ ls, rootsM ls ls.length x = true
instance (ls : List SetM) : Decidable (BookOkM ls) := by unfold BookOkM; exact inferInstance

theorem findM_mem {ls : List SetM} {s : ByteArray} {y : SetM} (h : findM ls s = some y) : y ∈ ls ∧ y.name = s := by
  unfold findM at h
  exact ⟨List.mem_of_find?_eq_some h, by simpa using List.find?_some h⟩
theorem rootsM_mono (ls : List SetM) : ∀ n x, rootsM ls n x = true → rootsM ls (n + 1) x = true
  | 0, x, h => by simp [rootsM] at h
  | n + 1, x, h => by
    rw [rootsM] at h ⊢
    split at h
    · rename_i h1; rw [if_pos h1]
    · rename_i h1
      rw [if_neg h1]
      cases hf : findM ls x.frm with
      | none => rw [hf] at h; exact h
      | some y =>
        rw [hf] at h
        simp only at h ⊢
        split at h
        · cases h
        · rename_i h2; rw [if_neg h2]; exact rootsM_mono ls n y h
theorem filter_lt {α : Type} {p q : α → Bool} (hpq : ∀ x, p x = true → q x = true) : ∀ {l : List α} {x : α}, x ∈ l → q x = true → p x = false → (l.filter p).length < (l.filter q).length
  | a :: l, x, hx, hq, hp => by
    have hle : (l.filter p).length ≤ (l.filter q).length := by
      clear hx hq hp
      induction l with
      | nil => exact Nat.le_refl _
      | cons b l ih =>
        simp only [List.filter_cons]
        by_cases h1 : p b = true
        · rw [if_pos h1, if_pos (hpq b h1)]; simpa using ih
        · rw [if_neg h1]
          split
          · simp; omega
          · exact ih
    rcases List.mem_cons.1 hx with rfl | hx
    · simp only [List.filter_cons, hq, hp]
      simp; omega
    · have ih := filter_lt hpq hx hq hp
      simp only [List.filter_cons]
      by_cases h1 : p a = true
      · rw [if_pos h1, if_pos (hpq a h1)]; simpa using ih
      · rw [if_neg h1]
        split
        · simp; omega
        · exact ih
theorem roots_rank (ls : List SetM) : ∀ k x, x ∈ ls → rootsM ls (k + 1) x = true → rootsM ls k x = false → k + 1 ≤ (ls.filter (fun y => rootsM ls (k + 1) y)).length
  | 0, x, hx, h1, _ => by
    have : x ∈ ls.filter (fun y => rootsM ls 1 y) := List.mem_filter.2 ⟨hx, h1⟩
    exact List.length_pos_of_mem this
  | k + 1, x, hx, h1, h0 => by
    have h2 := h1
    rw [rootsM] at h2
    have h3 := h0
    rw [rootsM] at h3
    split at h2
    · rename_i hr; rw [if_pos hr] at h3; cases h3
    · rename_i hr
      rw [if_neg hr] at h3
      cases hf : findM ls x.frm with
      | none => rw [hf] at h2; cases h2
      | some y =>
        rw [hf] at h2 h3
        simp only at h2 h3
        split at h2
        · cases h2
        · rename_i hk
          rw [if_neg hk] at h3
          have ih := roots_rank ls k y (findM_mem hf).1 h2 h3
          have := filter_lt (p := fun y => rootsM ls (k + 1) y) (q := fun y => rootsM ls (k + 1 + 1) y) (fun z hz => rootsM_mono ls _ z hz) hx h1 h0
          omega
/-- One more step finds nothing more. -/
theorem roots_more (ls : List SetM) {x : SetM} (hx : x ∈ ls) : rootsM ls (ls.length + 1) x = rootsM ls ls.length x := by
  cases h0 : rootsM ls ls.length x with
  | true => exact rootsM_mono ls _ x h0
  | false =>
    cases h1 : rootsM ls (ls.length + 1) x with
    | false => rfl
    | true =>
      have h2 := roots_rank ls ls.length x hx h1 h0
      have h3 := List.length_filter_le (fun y => rootsM ls (ls.length + 1) y) ls
      omega

/-- The place of a name, or that where it belongs. -/
def atM (ls : List SetM) (s : ByteArray) : Nat := (ls.takeWhile (fun x => decide (Lt x.name s))).length
def thereM (ls : List SetM) (s : ByteArray) : Bool := match ls[atM ls s]? with | some x => decide (x.name = s) | none => false
theorem atM_le (ls : List SetM) (s : ByteArray) : atM ls s ≤ ls.length := by
  unfold atM
  induction ls with
  | nil => exact Nat.le_refl _
  | cons a l ih =>
    simp only [List.takeWhile_cons]
    split
    · simpa using ih
    · simp
theorem find_at : ∀ {ls : List SetM} {s : ByteArray}, Asc ls → findM ls s = (if thereM ls s then ls[atM ls s]? else none)
  | [], s, _ => by simp [findM, thereM, atM]
  | a :: l, s, h => by
    have hl : Asc l := (List.pairwise_cons.1 h).2
    have ha := (List.pairwise_cons.1 h).1
    by_cases hlt : Lt a.name s
    · have e1 : atM (a :: l) s = atM l s + 1 := by simp [atM, hlt]
      have e2 : thereM (a :: l) s = thereM l s := by simp [thereM, e1]
      have e3 : findM (a :: l) s = findM l s := by
        unfold findM
        rw [List.find?_cons, decide_eq_false hlt.ne]
      rw [e3, find_at hl, e2, e1]
      simp
    · have e1 : atM (a :: l) s = 0 := by simp [atM, hlt]
      by_cases he : a.name = s
      · have e2 : thereM (a :: l) s = true := by simp [thereM, e1, he]
        rw [e2, e1]
        simp [findM, he]
      · have e2 : thereM (a :: l) s = false := by simp [thereM, e1, he]
        rw [e2]
        have hgt : Lt s a.name := by
          by_cases hg : Lt s a.name
          · exact hg
          · exact absurd (Lt.total hlt hg) he
        simp only [Bool.false_eq_true, if_false]
        unfold findM
        rw [List.find?_eq_none]
        intro x hx
        rcases List.mem_cons.1 hx with rfl | hx
        · simpa using he
        · have := (hgt.trans (ha x hx)).ne
          simpa using fun e => this e.symm
end Go.Proofs.YtojjenclcidnkaaGreatDoor

/-
  The document's l4At and l4Roots.
-/
set_option maxRecDepth 100000
namespace Go.Proofs.YtojjenclcidnkaaGreatDoor
open Go.ChangeShapes Go.WideShapes Go.ChangeAt Go.RowKit Go.Proofs.Palim

theorem atM_eq : ∀ {ls : List SetM} {s : ByteArray} {k : Nat}, k ≤ ls.length → (∀ (j : Nat) (h : j < ls.length), j < k → Lt ls[j].name s) → (∀ (h : k < ls.length), ¬ Lt ls[k].name s) → atM ls s = k
  | [], s, k, hk, _, _ => by simp at hk; subst hk; rfl
  | a :: l, s, 0, _, _, h2 => by
    have := h2 (by simp)
    simp at this
    simp [atM, this]
  | a :: l, s, k + 1, hk, h1, h2 => by
    have ha := h1 0 (by simp) (by omega)
    simp at ha
    have ih := atM_eq (ls := l) (s := s) (k := k) (by simpa using hk) (fun j h hj => h1 (j + 1) (by simpa using h) (by omega)) (fun h => h2 (by simpa using h))
    simp [atM, ha] at ih ⊢
    exact ih
theorem ret_at {a b : Nat} {x y : Bool} (h : a = b) (h2 : x = y) : Ending.returned (.tuple #[.int .i64 (a : Int), .bool x]) = Ending.returned (.tuple #[.int .i64 (b : Int), .bool y]) := by rw [h, h2]

set_option maxHeartbeats 1000000 in
theorem l4At_any (v : Value) (ls : List SetM) (s : ByteArray) (w : World) (h : BookR w v ls) (hs : ls.length ≤ 1048576) :
    Calls Tryz.prog 18 #[.agg #[v], .string s] w fun e w' => e = .returned (.tuple #[.int .i64 (atM ls s : Int), .bool (thereM ls s)]) ∧ Below w.heap.size w w' := by
  have hb0 := Below.new1 (w := w) (.cells #[v] 63)
  have hX := box_new w #[v] 63
  have h1 := (h.below hb0 (Nat.le_refl _)).r
  clear h
  obtain ⟨n, HN⟩ : ∃ n, Hid (ls.length = n) := ⟨_, Lib.hid rfl⟩
  rw [HN.out] at h1 hs
  by_cases hn : n = 0
  · subst hn
    obtain ⟨_, A, c, rfl, _, _, _⟩ := h1
    have HE := Lib.hid (List.length_eq_zero_iff.1 HN.out)
    have HW := Lib.hid hb0
    clear hb0 hX
    go_enter Tryz.func18, Tryz.ntmps18
    go_wp2
    go_loop [6] (fun i => i = .int .i64 0) (fun _ => 0)
    case atStart => rfl
    case round =>
      subst hrel
      have hd : decide ((0 : Int) < 0) = false := rfl
      go_wp2_with fail
      go_quiet (fail)
      go_wp2
      go_ret2
      exact ⟨ret_at (by rw [HE.out]; rfl) (by rw [HE.out]; rfl), below_drewN HW.out _⟩
  · obtain ⟨b, off, c, rfl, hnc, hcm, hcell⟩ := h1.form (by omega)
    have HC := Lib.hid hcell
    have HW := Lib.hid hb0
    have HX := Lib.hid hX
    unfold maxLen at hcm
    clear hcell h1 hb0 hX
    go_enter Tryz.func18, Tryz.ntmps18
    go_wp2
    generalize (w.alloc (.cells #[.slice (some ⟨b, off, none⟩) n c] 63)) = W at HC HW HX
    have x0 := HX.out.cell 0 rfl
    go_loop [6] (fun i => ∃ k : Nat, k ≤ n ∧ i = .int .i64 k ∧ Hid (∀ (j : Nat) (h : j < ls.length), j < k → Lt ls[j].name s)) (fun i => n - (intOf i).toNat)
    case atStart => exact ⟨0, Nat.zero_le _, rfl, Lib.hid (fun j _ h => absurd h (Nat.not_lt_zero _))⟩
    case round =>
      obtain ⟨k, hk, rfl, HK⟩ := hrel
      by_cases hlt : k < n
      · have hl0 : k < ls.length := by rw [HN.out]; exact hlt
        have g0 := (set_read HC.out k hl0).all.1
        have hk1 : (k : Int) < (n : Int) := by omega
        by_cases hL : Lt ls[k].name s
        · have HK1 := Lib.hid (show ∀ (j : Nat) (h : j < ls.length), j < k + 1 → Lt ls[j].name s from fun j h hj => by
            rcases Nat.lt_succ_iff_lt_or_eq.1 hj with h2 | rfl
            · exact HK.out j h h2
            · exact hL)
          have hL2 : Op.bytesLess ls[k].name.toList s.toList = true := hL
          clear hL HK
          generalize ls[k] = x at g0 hL2
          go_wp2
          go_round
          case rel => exact ⟨k + 1, by omega, by go_num, HK1⟩
          case measure => simp [intOf]; omega
        · have HA := Lib.hid (atM_eq (by rw [HN.out]; exact hk) HK.out (fun _ => hL))
          have HT := Lib.hid (show thereM ls s = decide (ls[k].name = s) from by unfold thereM; rw [HA.out, List.getElem?_eq_getElem hl0])
          have hL2 : Op.bytesLess ls[k].name.toList s.toList = false := by simpa [Lt] using hL
          clear hL HK
          generalize ls[k] = x at g0 hL2 HT
          by_cases he : x.name = s
          · have he2 : (x.name.toList == s.toList) = true := by rw [he]; simp
            have HT2 := Lib.hid (HT.out.trans (decide_eq_true he))
            clear HT he
            go_wp2_with fail
            go_quiet (fail)
            go_wp2
            go_ret2
            exact ⟨ret_at HA.out.symm HT2.out.symm, below_drewN HW.out _⟩
          · have he2 : (x.name.toList == s.toList) = false := by rw [← beq_toListBytes, bytes_beq, decide_eq_false he]
            have HT2 := Lib.hid (HT.out.trans (decide_eq_false he))
            clear HT he
            go_wp2_with fail
            go_quiet (fail)
            go_wp2
            go_ret2
            exact ⟨ret_at HA.out.symm HT2.out.symm, below_drewN HW.out _⟩
      · have HA := Lib.hid (atM_eq (by rw [HN.out]; exact hk) HK.out (fun h => absurd h (by rw [HN.out]; exact hlt)))
        have HT2 := Lib.hid (show thereM ls s = false from by unfold thereM; rw [HA.out, List.getElem?_eq_none (by rw [HN.out]; omega)])
        have hd : decide ((k : Int) < (n : Int)) = false := decide_eq_false (by omega)
        clear HK
        go_wp2_with fail
        go_quiet (fail)
        go_wp2
        go_ret2
        exact ⟨ret_at HA.out.symm HT2.out.symm, below_drewN HW.out _⟩
end Go.Proofs.YtojjenclcidnkaaGreatDoor

/-
  The document's l4Roots.
-/
set_option maxRecDepth 100000
namespace Go.Proofs.YtojjenclcidnkaaGreatDoor
open Go.ChangeShapes Go.WideShapes Go.ChangeAt Go.RowKit Go.Proofs.Palim

theorem empty_of_size {s : ByteArray} (h : s.size = 0) : s = ⟨#[]⟩ := by
  obtain ⟨⟨l⟩⟩ := s
  have : l.length = 0 := h
  rw [List.length_eq_zero_iff.1 this]
theorem eqEmpty {s : ByteArray} (h : s.size = 0) : (s.toList == []) = true := by rw [empty_of_size h, ByteArray.toList_eq]; rfl
theorem neEmpty {s : ByteArray} (h : ¬ s.size = 0) : (s.toList == []) = false := by
  have h1 : (s == (⟨#[]⟩ : ByteArray)) = false := by
    rw [bytes_beq]
    exact decide_eq_false fun e => h (by rw [e]; rfl)
  rw [beq_toListBytes, ByteArray.toList_eq ⟨#[]⟩] at h1
  exact h1
theorem find_empty {ls : List SetM} (hn : ∀ y ∈ ls, NameOk y.name) {s : ByteArray} (h : s.size = 0) : findM ls s = none := by
  unfold findM
  rw [List.find?_eq_none]
  intro y hy
  have h1 := (hn y hy).1
  simp only [decide_eq_true_eq]
  intro e
  rw [e] at h1
  omega
theorem roots_empty {ls : List SetM} {x : SetM} {m : Nat} (hn : ∀ y ∈ ls, NameOk y.name) (h : x.frm.size = 0) : rootsM ls (m + 1) x = decide (x.kind = 1) := by
  rw [rootsM, find_empty hn h]
  by_cases hk : x.kind = 1
  · rw [if_pos ⟨hk, h⟩, decide_eq_true hk]
  · rw [if_neg (fun c => hk c.1), decide_eq_false hk]
theorem roots_none {ls : List SetM} {x : SetM} {m : Nat} (ha : Asc ls) (h : ¬ x.frm.size = 0) (ht : thereM ls x.frm = false) : rootsM ls (m + 1) x = false := by
  rw [rootsM, if_neg (fun c => h c.2), find_at ha, ht]
  simp
theorem roots_some {ls : List SetM} {x y : SetM} {m : Nat} (ha : Asc ls) (h : ¬ x.frm.size = 0) (ht : thereM ls x.frm = true) (hy : ls[atM ls x.frm]? = some y) : rootsM ls (m + 1) x = if y.kind = x.kind then false else rootsM ls m y := by
  rw [rootsM, if_neg (fun c => h c.2), find_at ha, ht, if_pos rfl, hy]
theorem there_lt {ls : List SetM} {s : ByteArray} (h : thereM ls s = true) : ∃ h : atM ls s < ls.length, ls[atM ls s].name = s := by
  unfold thereM at h
  split at h
  · rename_i x hx
    obtain ⟨hl, rfl⟩ := List.getElem?_eq_some_iff.1 hx
    exact ⟨hl, by simpa using h⟩
  · cases h

/-- The eleven cells of a set in a box, written. -/
theorem Box.set11 {w : World} {b : Nat} {x : SetM} (h : Box w b (kc x)) (y : SetM) :
    Box ((((((((((((w.setCell ⟨b, 0, none⟩ (.string y.name)).setCell ⟨b, 1, none⟩ (.int .i64 y.kind)).setCell ⟨b, 2, none⟩ (.string y.frm)).setCell ⟨b, 3, none⟩ (.string y.b0)).setCell ⟨b, 4, none⟩ (.string y.b1)).setCell ⟨b, 5, none⟩ (.string y.b2)).setCell ⟨b, 6, none⟩ (.string y.b3)).setCell ⟨b, 7, none⟩ (.string y.b4)).setCell ⟨b, 8, none⟩ (.string y.b5)).setCell ⟨b, 9, none⟩ (.string y.b6)).setCell ⟨b, 10, none⟩ (.string y.b7))) b (kc y) := (((((((((((h.set 0 (.string y.name)).set 1 (.int .i64 y.kind)).set 2 (.string y.frm)).set 3 (.string y.b0)).set 4 (.string y.b1)).set 5 (.string y.b2)).set 6 (.string y.b3)).set 7 (.string y.b4)).set 8 (.string y.b5)).set 9 (.string y.b6)).set 10 (.string y.b7))

theorem Box.other11 {w : World} {a b : Nat} {vs : List Value} (h : Box w a vs) (hb : a ≠ b) (y : SetM) : Box ((((((((((((w.setCell ⟨b, 0, none⟩ (.string y.name)).setCell ⟨b, 1, none⟩ (.int .i64 y.kind)).setCell ⟨b, 2, none⟩ (.string y.frm)).setCell ⟨b, 3, none⟩ (.string y.b0)).setCell ⟨b, 4, none⟩ (.string y.b1)).setCell ⟨b, 5, none⟩ (.string y.b2)).setCell ⟨b, 6, none⟩ (.string y.b3)).setCell ⟨b, 7, none⟩ (.string y.b4)).setCell ⟨b, 8, none⟩ (.string y.b5)).setCell ⟨b, 9, none⟩ (.string y.b6)).setCell ⟨b, 10, none⟩ (.string y.b7))) a vs := (((((((((((h.other (p := ⟨b, 0, none⟩) hb (.string y.name)).other (p := ⟨b, 1, none⟩) hb (.int .i64 y.kind)).other (p := ⟨b, 2, none⟩) hb (.string y.frm)).other (p := ⟨b, 3, none⟩) hb (.string y.b0)).other (p := ⟨b, 4, none⟩) hb (.string y.b1)).other (p := ⟨b, 5, none⟩) hb (.string y.b2)).other (p := ⟨b, 6, none⟩) hb (.string y.b3)).other (p := ⟨b, 7, none⟩) hb (.string y.b4)).other (p := ⟨b, 8, none⟩) hb (.string y.b5)).other (p := ⟨b, 9, none⟩) hb (.string y.b6)).other (p := ⟨b, 10, none⟩) hb (.string y.b7))
theorem below_set11 {B : Nat} {w0 w : World} {b : Nat} (h : Below B w0 w) (hb : B ≤ b) (y : SetM) : Below B w0 ((((((((((((w.setCell ⟨b, 0, none⟩ (.string y.name)).setCell ⟨b, 1, none⟩ (.int .i64 y.kind)).setCell ⟨b, 2, none⟩ (.string y.frm)).setCell ⟨b, 3, none⟩ (.string y.b0)).setCell ⟨b, 4, none⟩ (.string y.b1)).setCell ⟨b, 5, none⟩ (.string y.b2)).setCell ⟨b, 6, none⟩ (.string y.b3)).setCell ⟨b, 7, none⟩ (.string y.b4)).setCell ⟨b, 8, none⟩ (.string y.b5)).setCell ⟨b, 9, none⟩ (.string y.b6)).setCell ⟨b, 10, none⟩ (.string y.b7))) := (((((((((((h.setCell (p := ⟨b, 0, none⟩) hb (.string y.name)).setCell (p := ⟨b, 1, none⟩) hb (.int .i64 y.kind)).setCell (p := ⟨b, 2, none⟩) hb (.string y.frm)).setCell (p := ⟨b, 3, none⟩) hb (.string y.b0)).setCell (p := ⟨b, 4, none⟩) hb (.string y.b1)).setCell (p := ⟨b, 5, none⟩) hb (.string y.b2)).setCell (p := ⟨b, 6, none⟩) hb (.string y.b3)).setCell (p := ⟨b, 7, none⟩) hb (.string y.b4)).setCell (p := ⟨b, 8, none⟩) hb (.string y.b5)).setCell (p := ⟨b, 9, none⟩) hb (.string y.b6)).setCell (p := ⟨b, 10, none⟩) hb (.string y.b7))
theorem size_set11 (w : World) (b : Nat) (y : SetM) : ((((((((((((w.setCell ⟨b, 0, none⟩ (.string y.name)).setCell ⟨b, 1, none⟩ (.int .i64 y.kind)).setCell ⟨b, 2, none⟩ (.string y.frm)).setCell ⟨b, 3, none⟩ (.string y.b0)).setCell ⟨b, 4, none⟩ (.string y.b1)).setCell ⟨b, 5, none⟩ (.string y.b2)).setCell ⟨b, 6, none⟩ (.string y.b3)).setCell ⟨b, 7, none⟩ (.string y.b4)).setCell ⟨b, 8, none⟩ (.string y.b5)).setCell ⟨b, 9, none⟩ (.string y.b6)).setCell ⟨b, 10, none⟩ (.string y.b7))).heap.size = w.heap.size := by simp [World.setCell]

theorem setAt_of_box {w : World} {b : Nat} {x : SetM} (h : Box w b (kc x)) : SetAt w b 0 x := fun j u hu => by
  rw [Nat.zero_add]; exact h.cell j hu

set_option maxHeartbeats 2000000 in
theorem l4Roots_any (v : Value) (ls : List SetM) (x : SetM) (w : World) (h : BookR w v ls) (hs : ls.length ≤ 6) (hn : ∀ y ∈ ls, NameOk y.name) (ha : Asc ls) :
    Calls Tryz.prog 77 #[.agg #[v], .agg #[.string x.name, .int .i64 x.kind, .string x.frm, .string x.b0, .string x.b1, .string x.b2, .string x.b3, .string x.b4, .string x.b5, .string x.b6, .string x.b7]] w fun e w' => e = .returned (.bool (rootsM ls (ls.length + 1) x)) ∧ Below w.heap.size w w' := by
  have hnot : ∀ (x : Bool) (w : World), (Op.unary .not (.bool x)).run Tryz.prog w = .ok (.bool (!x)) w := fun _ _ => rfl
  obtain ⟨ok, HOK⟩ : ∃ ok, Hid (rootsM ls (ls.length + 1) x = ok) := ⟨_, Lib.hid rfl⟩
  rw [HOK.out]
  obtain ⟨hX, hY, hsz, hb0⟩ := box2 w #[v] #[.string x.name, .int .i64 x.kind, .string x.frm, .string x.b0, .string x.b1, .string x.b2, .string x.b3, .string x.b4, .string x.b5, .string x.b6, .string x.b7] 63 97
  have HR := Lib.hid h
  have HN := Lib.hid hn
  have HA := Lib.hid ha
  have HX := Lib.hid hX
  have HY := Lib.hid (show Box _ (w.heap.size + 1) (kc x) from hY)
  have HW := Lib.hid hb0
  clear h hn ha hX hY hb0
  obtain ⟨A, c, rfl⟩ := HR.out.form
  obtain ⟨n, HL⟩ : ∃ n, Hid (ls.length = n) := ⟨_, Lib.hid rfl⟩
  rw [HL.out] at hs hsz HX HW HY HOK
  rw [HL.out]
  have HR2 : Hid (BookR w (.slice A n c) ls) := Lib.hid (by have := HR.out; rwa [HL.out] at this)
  clear HR
  go_enter Tryz.func77, Tryz.ntmps77
  go_wp2
  generalize ((w.alloc (.cells #[.slice A n c] 63)).alloc (.cells #[.string x.name, .int .i64 x.kind, .string x.frm, .string x.b0, .string x.b1, .string x.b2, .string x.b3, .string x.b4, .string x.b5, .string x.b6, .string x.b7] 97)) = W at HX HY HW hsz
  go_loopw [5] (fun i wr => ∃ (k : Nat) (z : SetM), k ≤ n + 1 ∧ i = .int .i64 k ∧ w.heap.size + 2 ≤ wr.heap.size ∧ Hid (Box wr w.heap.size [.slice A n c]) ∧ Hid (Box wr (w.heap.size + 1) (kc z)) ∧ Hid (Below w.heap.size w wr) ∧ Hid (rootsM ls (n + 1 - k) z = ok)) (fun i _ => n + 1 - (intOf i).toNat)
  case atStart => exact ⟨0, x, Nat.zero_le _, rfl, by omega, HX, HY, HW, Lib.hid HOK.out⟩
  case round =>
    obtain ⟨k, z, hk, rfl, hsw, HX1, HY1, HW1, HQ⟩ := hrel
    clear HX HY HW HOK
    have x0 := HX1.out.cell 0 rfl
    obtain ⟨g0, g1, g2, g3, g4, g5, g6, g7, g8, g9, g10⟩ := (setAt_of_box HY1.out).all
    simp only [Nat.zero_add] at g1 g2 g3 g4 g5 g6 g7 g8 g9 g10
    by_cases hlt : k ≤ n
    · obtain ⟨m, HM⟩ : ∃ m, Hid (n + 1 - k = m + 1) := ⟨n - k, Lib.hid (by omega)⟩
      rw [HM.out] at HQ
      by_cases he : z.frm.size = 0
      · have he2 := eqEmpty he
        have HF := Lib.hid ((roots_empty HN.out he).symm.trans HQ.out)
        clear HQ he
        by_cases hk1 : z.kind = 1
        · have HF2 := Lib.hid (HF.out.symm.trans (decide_eq_true hk1))
          go_wp2
          go_ret
          exact ⟨ret_boolB HF2.out.symm, HW1.out⟩
        · have HF2 := Lib.hid (HF.out.symm.trans (decide_eq_false hk1))
          have hkq : (z.kind == 1) = false := by simp [hk1]
          go_wp2
          go_ret
          exact ⟨ret_boolB HF2.out.symm, HW1.out⟩
      · have he2 := neEmpty he
        have HE := Lib.hid he
        clear he
        go_wp2_with fail
        have HR1 := Lib.hid (HR2.out.below HW1.out (Nat.le_refl _))
        refine (l4At_any _ ls z.frm _ HR1.out (by rw [HL.out]; omega)).mono ?_
        rintro e w2 ⟨rfl, hb⟩
        have HX2 := Lib.hid (HX1.out.below hb (by omega))
        have HY2 := Lib.hid (HY1.out.below hb (by omega))
        have HW2 := Lib.hid (HW1.out.trans (hb.mono HW1.out.size))
        have hsw2 : w.heap.size + 2 ≤ w2.heap.size := Nat.le_trans hsw hb.size
        clear hb HX1 HY1 HW1 HR1 x0 g0 g1 g2 g3 g4 g5 g6 g7 g8 g9 g10 he2 hsw
        obtain ⟨at_, HAT⟩ : ∃ at_, Hid (atM ls z.frm = at_) := ⟨_, Lib.hid rfl⟩
        obtain ⟨th, HTH⟩ : ∃ th, Hid (thereM ls z.frm = th) := ⟨_, Lib.hid rfl⟩
        rw [HAT.out, HTH.out]
        have x0 := HX2.out.cell 0 rfl
        obtain ⟨g0, g1, g2, g3, g4, g5, g6, g7, g8, g9, g10⟩ := (setAt_of_box HY2.out).all
        simp only [Nat.zero_add] at g1 g2 g3 g4 g5 g6 g7 g8 g9 g10
        cases th with
        | false =>
          have HF := Lib.hid ((roots_none HA.out HE.out HTH.out).symm.trans HQ.out)
          go_wp2_with fail
          go_quiet (fail)
          go_wp2
          go_ret
          exact ⟨ret_boolB HF.out, below_drewN HW2.out _⟩
        | true =>
          obtain ⟨hal, -⟩ := there_lt HTH.out
          obtain ⟨y, hyy⟩ : ∃ y, ls[atM ls z.frm]? = some y := ⟨_, List.getElem?_eq_getElem hal⟩
          have HS := Lib.hid ((roots_some (m := m) HA.out HE.out HTH.out hyy).symm.trans HQ.out)
          have hpos : 0 < n := by have := HL.out; omega
          have hat : at_ < n := by have := HL.out; have := HAT.out; omega
          have hcells := (HR2.out.below HW2.out (Nat.le_refl _)).r
          rw [HL.out] at hcells
          obtain ⟨b, off, c', hv, hnc, hcm, hcell⟩ := hcells.form hpos
          injection hv with e1 e2 e3
          subst e1 e3
          have hrd := set_read hcell at_ (by rw [HL.out]; exact hat)
          have hy2 : ls[at_]'(by rw [HL.out]; exact hat) = y := by rw [HAT.out] at hyy; exact (List.getElem?_eq_some_iff.1 hyy).2
          rw [hy2] at hrd
          obtain ⟨q0, q1, q2, q3, q4, q5, q6, q7, q8, q9, q10⟩ := hrd.all
          have hat2 : (at_ : Int) < (n : Int) := by omega
          unfold maxLen at hcm
          have hbl : b < w.heap.size := HR2.out.l b rfl
          clear hrd hcell hcells hyy hal hy2
          by_cases hky : y.kind = z.kind
          · have HF := Lib.hid (HS.out.symm.trans (if_pos hky))
            have hkq : (y.kind == z.kind) = true := by simp [hky]
            clear HS hky
            go_wp2_with fail
            go_quiet (fail)
            go_wp2
            go_ret
            exact ⟨ret_boolB HF.out.symm, below_drewN HW2.out _⟩
          · have HF := Lib.hid ((if_neg hky).symm.trans HS.out)
            have hkq : (y.kind == z.kind) = false := by simp [hky]
            clear HS hky
            have f0 := HY2.out.open_ 0
            have f1 := HY2.out.open_ 1
            have f2 := HY2.out.open_ 2
            have f3 := HY2.out.open_ 3
            have f4 := HY2.out.open_ 4
            have f5 := HY2.out.open_ 5
            have f6 := HY2.out.open_ 6
            have f7 := HY2.out.open_ 7
            have f8 := HY2.out.open_ 8
            have f9 := HY2.out.open_ 9
            have f10 := HY2.out.open_ 10
            go_wp2_with fail
            go_quiet (fail)
            go_wp2
            go_roundw
            case rel => exact ⟨k + 1, y, by omega, by go_num, by simpa [World.setCell] using hsw2, Lib.hid (Box.other11 (HX2.out.drewN _) (by omega) y), Lib.hid (Box.set11 (HY2.out.drewN _) y), Lib.hid (below_set11 (below_drewN HW2.out _) (by omega) y), Lib.hid (by have := HM.out; rw [show n + 1 - (k + 1) = m by omega]; exact HF.out)⟩
            case measure => simp [intOf]; omega
    · have HF := Lib.hid (show false = ok from by have := HQ.out; rw [show n + 1 - k = 0 by omega] at this; exact this)
      go_wp2
      go_ret
      exact ⟨ret_boolB HF.out, HW1.out⟩
end Go.Proofs.YtojjenclcidnkaaGreatDoor
