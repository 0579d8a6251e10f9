/-
  Where an entry lies: l5At and DdtCount, spec's and impl's.
-/
import Derived.Test.YtobjgdnmlibofaaGreatDdtOk
import Derived.Deep.RegionHeld3
set_option maxRecDepth 100000
namespace Go.Proofs.YtobjgdnmlibofaaGreat
open Go.ChangeShapes Go.WideShapes Go.ChangeAt Go.RowKit Go.Proofs.Palim

/-- The place of an entry, or that where it belongs. -/
def AtP (ls : List EntM) (a : Int) (k : Nat) : Prop := k ≤ ls.length ∧ (∀ (i : Nat) (h : i < ls.length), i < k → ls[i].at_ < a) ∧ (∀ h : k < ls.length, ¬ ls[k].at_ < a)
def ThereP (ls : List EntM) (a : Int) (k : Nat) : Prop := ∃ h : k < ls.length, ls[k].at_ = a
def findE (ls : List EntM) (a : Int) : Option EntM := ls.find? (fun e => e.at_ == a)
noncomputable def countM (ls : List EntM) (a : Int) : Int := if DdtOkM ls then (findE ls a).elim 0 (·.count) else 0
theorem goodE_lt {ls : List EntM} (h : GoodE ls ls.length) {i j : Nat} (hij : i < j) (hj : j < ls.length) : (ls[i]'(by omega)).at_ < ls[j].at_ := by
  induction j with
  | zero => omega
  | succ j ih =>
    have h1 := (h (j + 1) hj hj).2 (by omega)
    simp only [Nat.add_sub_cancel] at h1
    by_cases e : i = j
    · subst e; exact h1
    · have h2 := ih (by omega) (by omega); omega
theorem find_first {ls : List EntM} {a : Int} {k : Nat} (hk : k < ls.length) (h : ls[k].at_ = a) (hb : ∀ (i : Nat) (h : i < ls.length), i < k → ls[i].at_ ≠ a) : findE ls a = some ls[k] := by
  unfold findE
  rw [List.find?_eq_some_iff_getElem]
  refine ⟨by simpa using h, k, hk, rfl, fun j hj => ?_⟩
  have := hb j (by omega) hj
  simpa using this
theorem find_none {ls : List EntM} {a : Int} (h : ∀ (i : Nat) (h : i < ls.length), ls[i].at_ ≠ a) : findE ls a = none := by
  unfold findE
  rw [List.find?_eq_none]
  intro x hx
  obtain ⟨i, hi, rfl⟩ := List.getElem_of_mem hx
  simpa using h i hi
theorem at_there {ls : List EntM} {a : Int} {k : Nat} (h : AtP ls a k) (ht : ThereP ls a k) : ∃ hk : k < ls.length, findE ls a = some ls[k] := by
  obtain ⟨hk, e⟩ := ht
  exact ⟨hk, find_first hk e fun i hi hik => by have := h.2.1 i hi hik; omega⟩
theorem at_none {ls : List EntM} {a : Int} {k : Nat} (hok : GoodE ls ls.length) (h : AtP ls a k) (ht : ¬ ThereP ls a k) : ∀ (i : Nat) (h : i < ls.length), ls[i].at_ ≠ a := by
  intro i hi e
  by_cases h1 : i < k
  · have := h.2.1 i hi h1; omega
  · by_cases h2 : i = k
    · subst h2; exact ht ⟨hi, e⟩
    · have h3 := h.2.2 (by omega)
      have h4 := goodE_lt hok (show k < i by omega) hi
      omega

def AtPost (ls : List EntM) (a : Int) (w : World) (e : Ending) (w' : World) : Prop :=
  ∃ (k : Nat) (r : Bool), e = .returned (.tuple #[.int .i64 (k : Int), .bool r]) ∧ AtP ls a k ∧ (r = true ↔ ThereP ls a k) ∧ Below w.heap.size w w'

set_option maxHeartbeats 1000000 in
theorem l5At_any (v : Value) (ls : List EntM) (a : Int) (w : World) (h : Sl w 3 v ls.length (ecs ls)) (hv : Low w.heap.size v) :
    Calls Tryz.prog 104 #[v, .int .i64 a] w (AtPost ls a w) := by
  obtain ⟨n, HL⟩ : ∃ n, Hid (ls.length = n) := ⟨_, Lib.hid rfl⟩
  rw [HL.out] at h
  have hnm := h.le
  unfold maxLen at hnm
  by_cases hn0 : n = 0
  · subst hn0
    have HE := Lib.hid (List.length_eq_zero_iff.1 HL.out)
    obtain ⟨_, A, c, rfl, _, _, _⟩ := h
    go_enter Tryz.func104, Tryz.ntmps104
    go_wp2
    go_loopw [6] (fun i wr => i = .int .i64 0 ∧ wr = w) (fun _ _ => 0)
    case atStart => exact ⟨rfl, rfl⟩
    case round =>
      obtain ⟨rfl, rfl⟩ := hrel
      go_wp2_with fail
      go_quiet (fail)
      go_wp2
      refine bodyPost_ret (v := .tuple #[.int .i64 0, .bool false]) (by simp [results, Tryz.results104, go_sem]) rfl ?_
      exact ⟨0, false, rfl, ⟨Nat.zero_le _, fun i _ h => absurd h (Nat.not_lt_zero _), fun h => by rw [HE.out] at h; exact absurd h (Nat.lt_irrefl _)⟩, ⟨fun h => (by cases h), fun ⟨h, _⟩ => by rw [HE.out] at h; exact absurd h (Nat.lt_irrefl _)⟩, ⟨rfl, rfl, rfl, Nat.le_refl _, fun _ _ => rfl⟩⟩
  obtain ⟨b, off, c, rfl, hnc, hcm, hcell⟩ := h.form (by omega)
  have hbl : b < w.heap.size := hv b rfl
  have HC := Lib.hid hcell
  unfold maxLen at hcm
  clear hcell h hv
  go_enter Tryz.func104, Tryz.ntmps104
  go_wp2
  go_loopw [6] (fun i wr => ∃ (k : Nat), k ≤ n ∧ i = .int .i64 k ∧ wr = w ∧ Hid (∀ (i : Nat) (h : i < ls.length), i < k → ls[i].at_ < a)) (fun i _ => n - (intOf i).toNat)
  case atStart => exact ⟨0, Nat.zero_le _, rfl, rfl, Lib.hid (fun j _ h => absurd h (Nat.not_lt_zero _))⟩
  case round =>
    obtain ⟨k, hk, rfl, rfl, HG⟩ := hrel
    by_cases hlt : k < n
    case pos =>
      have hl0 : k < ls.length := by rw [HL.out]; exact hlt
      obtain ⟨g0, g1, g2⟩ := ent_read HC.out k hl0
      have hk1 : (k : Int) < (n : Int) := by omega
      have HS := Lib.hid (show ls[k].at_ < a → ∀ (i : Nat) (h : i < ls.length), i < k + 1 → ls[i].at_ < a from fun h i hi hik => by
        by_cases e : i = k
        · subst e; exact h
        · exact HG.out i hi (by omega))
      have HP := Lib.hid (show ¬ ls[k].at_ < a → AtP ls a k from fun h => ⟨by omega, HG.out, fun _ => h⟩)
      have HT := Lib.hid (show ls[k].at_ = a ↔ ThereP ls a k from ⟨fun h => ⟨hl0, h⟩, fun ⟨_, h⟩ => h⟩)
      generalize ls[k] = y at g0 g1 g2 HS HP HT
      clear hl0 HG
      by_cases hya : y.at_ < a
      case pos =>
        have HS1 := Lib.hid (HS.out hya)
        clear HS HP HT
        go_wp2
        go_roundw
        case rel => exact ⟨k + 1, by omega, by go_num, by first | rfl | trivial, HS1⟩
        case measure => simp [intOf]; omega
      case neg =>
        have HP1 := Lib.hid (HP.out hya)
        clear HS HP
        by_cases hye : y.at_ = a
        case pos =>
          have HT1 := Lib.hid (HT.out.1 hye)
          have hyq : (y.at_ == a) = true := by simpa using hye
          have hyd : decide (y.at_ = a) = true := by simpa using hye
          clear HT hye
          go_wp2_with fail
          go_quiet (fail)
          go_wp2
          refine bodyPost_ret (v := .tuple #[.int .i64 (k : Int), .bool true]) (by simp [results, Tryz.results104, go_sem]) rfl ?_
          exact ⟨k, true, rfl, HP1.out, ⟨fun _ => HT1.out, fun _ => rfl⟩, ⟨rfl, rfl, rfl, Nat.le_refl _, fun _ _ => rfl⟩⟩
        case neg =>
          have HT1 := Lib.hid (fun h => hye (HT.out.2 h))
          have hyq : (y.at_ == a) = false := by simpa using hye
          have hyd : decide (y.at_ = a) = false := by simpa using hye
          clear HT hye
          go_wp2_with fail
          go_quiet (fail)
          go_wp2
          refine bodyPost_ret (v := .tuple #[.int .i64 (k : Int), .bool false]) (by simp [results, Tryz.results104, go_sem]) rfl ?_
          exact ⟨k, false, rfl, HP1.out, ⟨fun h => (by cases h), fun h => absurd h HT1.out⟩, ⟨rfl, rfl, rfl, Nat.le_refl _, fun _ _ => rfl⟩⟩
    case neg =>
      have HP1 := Lib.hid (show AtP ls a k from ⟨by rw [HL.out]; exact hk, HG.out, fun h => absurd h (by rw [HL.out]; exact hlt)⟩)
      have HT1 := Lib.hid (show ¬ ThereP ls a k from fun ⟨h, _⟩ => absurd h (by rw [HL.out]; exact hlt))
      have hkn : ¬ (k : Int) < (n : Int) := by omega
      go_wp2_with fail
      go_quiet (fail)
      go_wp2
      refine bodyPost_ret (v := .tuple #[.int .i64 (k : Int), .bool false]) (by simp [results, Tryz.results104, go_sem]) rfl ?_
      exact ⟨k, false, rfl, HP1.out, ⟨fun h => (by cases h), fun h => absurd h HT1.out⟩, ⟨rfl, rfl, rfl, Nat.le_refl _, fun _ _ => rfl⟩⟩
theorem ret_int' {a b : Int} (h : a = b) : Ending.returned (.int .i64 a) = Ending.returned (.int .i64 b) := by rw [h]

end Go.Proofs.YtobjgdnmlibofaaGreat
