/-
  Where an entry lies: l5At and DdtCount, spec's and impl's.
-/
import Derived.Test.YtkbdiinmicedfabDdtOk
import Derived.Deep.RegionHeld3
set_option maxRecDepth 100000
namespace Go.Proofs.Ytkbdiinmicedfab
open Go.ChangeShapes Go.WideShapes Go.ChangeAt Go.RowKit Go.Proofs.Palim

/-- The place of an entry, or that where it belongs. -/
def AtP (ls : List EntM) (a : Int) (k : Nat) : Prop := k ≤ ls.length ∧ (∀ (i : Nat) (h : i < ls.length), i < k → ls[i].at_ < a) ∧ (∀ h : k < ls.length, ¬ ls[k].at_ < a)
def ThereP (ls : List EntM) (a : Int) (k : Nat) : Prop := ∃ h : k < ls.length, ls[k].at_ = a
def findE (ls : List EntM) (a : Int) : Option EntM := ls.find? (fun e => e.at_ == a)
noncomputable def countM (ls : List EntM) (a : Int) : Int := if DdtOkM ls then (findE ls a).elim 0 (·.count) else 0
theorem goodE_lt {ls : List EntM} (h : GoodE ls ls.length) {i j : Nat} (hij : i < j) (hj : j < ls.length) : (ls[i]'(by omega)).at_ < ls[j].at_ := by
  induction j with
  | zero => omega
  | succ j ih =>
    have h1 := (h (j + 1) hj hj).2 (by omega)
    simp only [Nat.add_sub_cancel] at h1
    by_cases e : i = j
    · subst e; exact h1
    · have h2 := ih (by omega) (by omega); omega
theorem find_first {ls : List EntM} {a : Int} {k : Nat} (hk : k < ls.length) (h : ls[k].at_ = a) (hb : ∀ (i : Nat) (h : i < ls.length), i < k → ls[i].at_ ≠ a) : findE ls a = some ls[k] := by
  unfold findE
  rw [List.find?_eq_some_iff_getElem]
  refine ⟨by simpa using h, k, hk, rfl, fun j hj => ?_⟩
  have := hb j (by omega) hj
  simpa using this
theorem find_none {ls : List EntM} {a : Int} (h : ∀ (i : Nat) (h : i < ls.length), ls[i].at_ ≠ a) : findE ls a = none := by
  unfold findE
  rw [List.find?_eq_none]
  intro x hx
  obtain ⟨i, hi, rfl⟩ := List.getElem_of_mem hx
  simpa using h i hi
theorem at_there {ls : List EntM} {a : Int} {k : Nat} (h : AtP ls a k) (ht : ThereP ls a k) : ∃ hk : k < ls.length, findE ls a = some ls[k] := by
  obtain ⟨hk, e⟩ := ht
  exact ⟨hk, find_first hk e fun i hi hik => by have := h.2.1 i hi hik; omega⟩
theorem at_none {ls : List EntM} {a : Int} {k : Nat} (hok : GoodE ls ls.length) (h : AtP ls a k) (ht : ¬ ThereP ls a k) : ∀ (i : Nat) (h : i < ls.length), ls[i].at_ ≠ a := by
  intro i hi e
  by_cases h1 : i < k
  · have := h.2.1 i hi h1; omega
  · by_cases h2 : i = k
    · subst h2; exact ht ⟨hi, e⟩
    · have h3 := h.2.2 (by omega)
      have h4 := goodE_lt hok (show k < i by omega) hi
      omega

def AtPost (ls : List EntM) (a : Int) (w : World) (e : Ending) (w' : World) : Prop :=
  ∃ (k : Nat) (r : Bool), e = .returned (.tuple #[.int .i64 (k : Int), .bool r]) ∧ AtP ls a k ∧ (r = true ↔ ThereP ls a k) ∧ Below w.heap.size w w'

set_option maxHeartbeats 1000000 in
theorem l5At_any (v : Value) (ls : List EntM) (a : Int) (w : World) (h : Sl w 3 v ls.length (ecs ls)) (hv : Low w.heap.size v) :
    Calls Try.prog 9 #[v, .int .i64 a] w (AtPost ls a w) := by
  obtain ⟨n, HL⟩ : ∃ n, Hid (ls.length = n) := ⟨_, Lib.hid rfl⟩
  rw [HL.out] at h
  have hnm := h.le
  unfold maxLen at hnm
  by_cases hn0 : n = 0
  · subst hn0
    have HE := Lib.hid (List.length_eq_zero_iff.1 HL.out)
    obtain ⟨_, A, c, rfl, _, _, _⟩ := h
    go_enter Try.func9, Try.ntmps9
    go_wp2
    go_loopw [6] (fun i wr => i = .int .i64 0 ∧ wr = w) (fun _ _ => 0)
    case atStart => exact ⟨rfl, rfl⟩
    case round =>
      obtain ⟨rfl, rfl⟩ := hrel
      go_wp2_with fail
      go_quiet (fail)
      go_wp2
      refine bodyPost_ret (v := .tuple #[.int .i64 0, .bool false]) (by simp [results, Try.results9, go_sem]) rfl ?_
      exact ⟨0, false, rfl, ⟨Nat.zero_le _, fun i _ h => absurd h (Nat.not_lt_zero _), fun h => by rw [HE.out] at h; exact absurd h (Nat.lt_irrefl _)⟩, ⟨fun h => (by cases h), fun ⟨h, _⟩ => by rw [HE.out] at h; exact absurd h (Nat.lt_irrefl _)⟩, ⟨rfl, rfl, rfl, Nat.le_refl _, fun _ _ => rfl⟩⟩
  obtain ⟨b, off, c, rfl, hnc, hcm, hcell⟩ := h.form (by omega)
  have hbl : b < w.heap.size := hv b rfl
  have HC := Lib.hid hcell
  unfold maxLen at hcm
  clear hcell h hv
  go_enter Try.func9, Try.ntmps9
  go_wp2
  go_loopw [6] (fun i wr => ∃ (k : Nat), k ≤ n ∧ i = .int .i64 k ∧ wr = w ∧ Hid (∀ (i : Nat) (h : i < ls.length), i < k → ls[i].at_ < a)) (fun i _ => n - (intOf i).toNat)
  case atStart => exact ⟨0, Nat.zero_le _, rfl, rfl, Lib.hid (fun j _ h => absurd h (Nat.not_lt_zero _))⟩
  case round =>
    obtain ⟨k, hk, rfl, rfl, HG⟩ := hrel
    by_cases hlt : k < n
    case pos =>
      have hl0 : k < ls.length := by rw [HL.out]; exact hlt
      obtain ⟨g0, g1, g2⟩ := ent_read HC.out k hl0
      have hk1 : (k : Int) < (n : Int) := by omega
      have HS := Lib.hid (show ls[k].at_ < a → ∀ (i : Nat) (h : i < ls.length), i < k + 1 → ls[i].at_ < a from fun h i hi hik => by
        by_cases e : i = k
        · subst e; exact h
        · exact HG.out i hi (by omega))
      have HP := Lib.hid (show ¬ ls[k].at_ < a → AtP ls a k from fun h => ⟨by omega, HG.out, fun _ => h⟩)
      have HT := Lib.hid (show ls[k].at_ = a ↔ ThereP ls a k from ⟨fun h => ⟨hl0, h⟩, fun ⟨_, h⟩ => h⟩)
      generalize ls[k] = y at g0 g1 g2 HS HP HT
      clear hl0 HG
      by_cases hya : y.at_ < a
      case pos =>
        have HS1 := Lib.hid (HS.out hya)
        clear HS HP HT
        go_wp2
        go_roundw
        case rel => exact ⟨k + 1, by omega, by go_num, by first | rfl | trivial, HS1⟩
        case measure => simp [intOf]; omega
      case neg =>
        have HP1 := Lib.hid (HP.out hya)
        clear HS HP
        by_cases hye : y.at_ = a
        case pos =>
          have HT1 := Lib.hid (HT.out.1 hye)
          have hyq : (y.at_ == a) = true := by simpa using hye
          have hyd : decide (y.at_ = a) = true := by simpa using hye
          clear HT hye
          go_wp2_with fail
          go_quiet (fail)
          go_wp2
          refine bodyPost_ret (v := .tuple #[.int .i64 (k : Int), .bool true]) (by simp [results, Try.results9, go_sem]) rfl ?_
          exact ⟨k, true, rfl, HP1.out, ⟨fun _ => HT1.out, fun _ => rfl⟩, ⟨rfl, rfl, rfl, Nat.le_refl _, fun _ _ => rfl⟩⟩
        case neg =>
          have HT1 := Lib.hid (fun h => hye (HT.out.2 h))
          have hyq : (y.at_ == a) = false := by simpa using hye
          have hyd : decide (y.at_ = a) = false := by simpa using hye
          clear HT hye
          go_wp2_with fail
          go_quiet (fail)
          go_wp2
          refine bodyPost_ret (v := .tuple #[.int .i64 (k : Int), .bool false]) (by simp [results, Try.results9, go_sem]) rfl ?_
          exact ⟨k, false, rfl, HP1.out, ⟨fun h => (by cases h), fun h => absurd h HT1.out⟩, ⟨rfl, rfl, rfl, Nat.le_refl _, fun _ _ => rfl⟩⟩
    case neg =>
      have HP1 := Lib.hid (show AtP ls a k from ⟨by rw [HL.out]; exact hk, HG.out, fun h => absurd h (by rw [HL.out]; exact hlt)⟩)
      have HT1 := Lib.hid (show ¬ ThereP ls a k from fun ⟨h, _⟩ => absurd h (by rw [HL.out]; exact hlt))
      have hkn : ¬ (k : Int) < (n : Int) := by omega
      go_wp2_with fail
      go_quiet (fail)
      go_wp2
      refine bodyPost_ret (v := .tuple #[.int .i64 (k : Int), .bool false]) (by simp [results, Try.results9, go_sem]) rfl ?_
      exact ⟨k, false, rfl, HP1.out, ⟨fun h => (by cases h), fun h => absurd h HT1.out⟩, ⟨rfl, rfl, rfl, Nat.le_refl _, fun _ _ => rfl⟩⟩
theorem ret_int' {a b : Int} (h : a = b) : Ending.returned (.int .i64 a) = Ending.returned (.int .i64 b) := by rw [h]

set_option maxHeartbeats 1000000 in
theorem SpecDdtCount_any (v : Value) (ls : List EntM) (a : Int) (w : World) (h : Sl w 3 v ls.length (ecs ls)) (hv : Low w.heap.size v) :
    Calls Try.prog 5 #[v, .int .i64 a] w fun e w' => e = .returned (.int .i64 (countM ls a)) ∧ Below w.heap.size w w' := by
  have hnot : ∀ (x : Bool) (w : World), (Op.unary .not (.bool x)).run Try.prog w = .ok (.bool (!x)) w := fun _ _ => rfl
  obtain ⟨R, HR⟩ : ∃ R, Hid (countM ls a = R) := ⟨_, Lib.hid rfl⟩
  rw [HR.out]
  have HV := Lib.hid hv
  have HD := Lib.hid h
  have hnm := h.le
  unfold maxLen at hnm
  obtain ⟨n, HL⟩ : ∃ n, Hid (ls.length = n) := ⟨_, Lib.hid rfl⟩
  obtain ⟨_, A, c, rfl, hnc, hcm, _⟩ := h
  unfold maxLen at hcm
  clear hv
  rw [HL.out] at HD HV hnm hnc ⊢
  go_enter Try.func5, Try.ntmps5
  go_wp2_with fail
  refine (l5At_any _ ls a _ (by rw [HL.out]; exact HD.out) HV.out).mono ?_
  rintro e w1 ⟨k, r, rfl, hat, hth, hb⟩
  have HAT := Lib.hid hat
  have HTH := Lib.hid hth
  have HV1 := Lib.hid (fun b e => Nat.lt_of_lt_of_le (HV.out b e) hb.size)
  have HD1 := Lib.hid (HD.out.below hb HV.out)
  have B1 := Lib.hid hb
  clear hat hth hb HD HV
  go_wp2_with fail
  refine (SpecDdtOk_any _ ls _ (by rw [HL.out]; exact HD1.out) HV1.out).mono ?_
  rintro e w2 ⟨rfl, hb⟩
  have HD2 := Lib.hid (HD1.out.below hb HV1.out)
  have B2 := Lib.hid (B1.out.trans (hb.mono B1.out.size))
  clear hb HD1 B1 HV1
  by_cases hok : DdtOkM ls
  case neg =>
    rw [decide_eq_false hok]
    have HZ := Lib.hid (show (0 : Int) = R from by rw [← HR.out]; unfold countM; rw [if_neg hok])
    clear hok
    go_wp2
    go_ret
    exact ⟨ret_int' HZ.out, B2.out⟩
  case pos =>
    rw [decide_eq_true hok]
    have HG := Lib.hid hok.2
    have HC := Lib.hid (show (findE ls a).elim 0 (·.count) = R from by rw [← HR.out]; unfold countM; rw [if_pos hok])
    clear hok
    cases r with
    | false =>
      have HZ := Lib.hid (show (0 : Int) = R from by
        rw [← HC.out, find_none (at_none HG.out HAT.out (fun h => by have := HTH.out.2 h; cases this))]
        rfl)
      go_wp2
      go_ret
      exact ⟨ret_int' HZ.out, B2.out⟩
    | true =>
      obtain ⟨hk, hf⟩ := at_there HAT.out (HTH.out.1 rfl)
      have HZ := Lib.hid (show ls[k].count = R from by rw [← HC.out, hf]; rfl)
      have hkn : k < n := by rw [← HL.out]; exact hk
      obtain ⟨b, off, c', hv', _, _, hcell⟩ := HD2.out.form (by omega)
      injection hv' with e1 e2 e3
      subst e1 e3
      obtain ⟨g0, g1, g2⟩ := ent_read hcell k hk
      generalize ls[k] = y at g0 g1 g2 HZ
      have hkn' : (k : Int) < (n : Int) := by omega
      clear hf hk hcell e2
      go_wp2
      go_ret
      exact ⟨ret_int' HZ.out, B2.out⟩

set_option maxHeartbeats 1000000 in
theorem ImplDdtCount_any (v : Value) (ls : List EntM) (a : Int) (w : World) (h : Sl w 3 v ls.length (ecs ls)) (hv : Low w.heap.size v) :
    Calls Try.prog 7 #[v, .int .i64 a] w fun e w' => e = .returned (.int .i64 (countM ls a)) ∧ Below w.heap.size w w' := by
  have hnot : ∀ (x : Bool) (w : World), (Op.unary .not (.bool x)).run Try.prog w = .ok (.bool (!x)) w := fun _ _ => rfl
  obtain ⟨R, HR⟩ : ∃ R, Hid (countM ls a = R) := ⟨_, Lib.hid rfl⟩
  rw [HR.out]
  have HV := Lib.hid hv
  have HD := Lib.hid h
  have hnm := h.le
  unfold maxLen at hnm
  obtain ⟨n, HL⟩ : ∃ n, Hid (ls.length = n) := ⟨_, Lib.hid rfl⟩
  obtain ⟨_, A, c, rfl, hnc, hcm, _⟩ := h
  unfold maxLen at hcm
  clear hv
  rw [HL.out] at HD HV hnm hnc ⊢
  go_enter Try.func7, Try.ntmps7
  go_wp2_with fail
  refine (ImplDdtOk_any _ ls _ (by rw [HL.out]; exact HD.out) HV.out).mono ?_
  rintro e w1 ⟨rfl, hb⟩
  have HD1 := Lib.hid (HD.out.below hb HV.out)
  have HV1 := Lib.hid (fun b e => Nat.lt_of_lt_of_le (HV.out b e) hb.size)
  have B1 := Lib.hid hb
  clear hb HD HV
  by_cases hok : DdtOkM ls
  case neg =>
    rw [decide_eq_false hok]
    have HZ := Lib.hid (show (0 : Int) = R from by rw [← HR.out]; unfold countM; rw [if_neg hok])
    clear hok
    go_wp2
    go_ret
    exact ⟨ret_int' HZ.out, B1.out⟩
  case pos =>
    rw [decide_eq_true hok]
    have HC := Lib.hid (show (findE ls a).elim 0 (·.count) = R from by rw [← HR.out]; unfold countM; rw [if_pos hok])
    clear hok
    go_wp2
    go_loopw [6, 12] (fun _ i wr => ∃ (k : Nat), k ≤ n ∧ i = .int .i64 k ∧ Hid (Below w1.heap.size w1 wr) ∧ Hid (∀ (i : Nat) (h : i < ls.length), i < k → ls[i].at_ ≠ a)) (fun _ i _ => n - (intOf i).toNat)
    case atStart => exact ⟨0, Nat.zero_le _, rfl, Lib.hid (Below.refl _ _), Lib.hid (fun j _ h => absurd h (Nat.not_lt_zero _))⟩
    case round =>
      obtain ⟨k, hk, rfl, HB, HG⟩ := hrel
      by_cases hlt : k < n
      case pos =>
        have hl0 : k < ls.length := by rw [HL.out]; exact hlt
        obtain ⟨b, off, c', hv', _, _, hcell⟩ := (HD1.out.below HB.out HV1.out).form (by omega)
        injection hv' with e1 e2 e3
        subst e1 e3
        obtain ⟨g0, g1, g2⟩ := ent_read hcell k hl0
        have hk1 : (k : Int) < (n : Int) := by omega
        have HS := Lib.hid (show ls[k].at_ ≠ a → ∀ (i : Nat) (h : i < ls.length), i < k + 1 → ls[i].at_ ≠ a from fun h i hi hik => by
          by_cases e : i = k
          · subst e; exact h
          · exact HG.out i hi (by omega))
        have HP := Lib.hid (show ls[k].at_ = a → ls[k].count = R from fun h => by rw [← HC.out, find_first hl0 h HG.out]; rfl)
        have HB2 := Lib.hid (HB.out.alloc HB.out.size (.cells #[.int .i64 ls[k].sum, .int .i64 ls[k].at_, .int .i64 ls[k].count] 33))
        generalize ls[k] = y at g0 g1 g2 HS HP HB2
        clear hl0 HG hcell e2
        by_cases hye : y.at_ = a
        case pos =>
          have HP1 := Lib.hid (HP.out hye)
          have hyq : (y.at_ == a) = true := by simpa using hye
          have hyd : decide (y.at_ = a) = true := by simpa using hye
          clear HS HP hye
          go_wp2
          go_ret
          exact ⟨ret_int' HP1.out, B1.out.trans (HB2.out.mono B1.out.size)⟩
        case neg =>
          have HS1 := Lib.hid (HS.out hye)
          have hyq : (y.at_ == a) = false := by simpa using hye
          have hyd : decide (y.at_ = a) = false := by simpa using hye
          clear HS HP hye
          go_wp2
          go_roundw
          case rel => exact ⟨k + 1, by omega, by go_num, HB2, HS1⟩
          case measure => simp [intOf]; omega
      case neg =>
        have HZ := Lib.hid (show (0 : Int) = R from by
          rw [← HC.out, find_none (fun i hi => HG.out i hi (by have := HL.out; omega))]
          rfl)
        have hkn : ¬ (k : Int) < (n : Int) := by omega
        go_wp2
        go_ret
        exact ⟨ret_int' HZ.out, B1.out.trans (HB.out.mono B1.out.size)⟩
theorem SpecDdtCount_is (v : Value) (ls : List EntM) (a r : Int) (w : World) (h : Sl w 3 v ls.length (ecs ls)) (hv : Low w.heap.size v) (hr : countM ls a = r) :
    Calls Try.prog 5 #[v, .int .i64 a] w fun e w' => e = .returned (.int .i64 r) ∧ Below w.heap.size w w' := hr ▸ SpecDdtCount_any v ls a w h hv
theorem ImplDdtCount_is (v : Value) (ls : List EntM) (a r : Int) (w : World) (h : Sl w 3 v ls.length (ecs ls)) (hv : Low w.heap.size v) (hr : countM ls a = r) :
    Calls Try.prog 7 #[v, .int .i64 a] w fun e w' => e = .returned (.int .i64 r) ∧ Below w.heap.size w w' := hr ▸ ImplDdtCount_any v ls a w h hv
end Go.Proofs.Ytkbdiinmicedfab
