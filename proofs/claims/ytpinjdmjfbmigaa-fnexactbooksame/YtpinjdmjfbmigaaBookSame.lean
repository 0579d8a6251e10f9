/-
  Books compared: both BookSame, and slices.Equal at sets.
-/
import Derived.Test.YtpinjdmjfbmigaaSetEq
set_option maxRecDepth 100000
namespace Go.Proofs.Ytpinjdmjfbmigaa
open Go.ChangeShapes Go.WideShapes Go.ChangeAt Go.RowKit Go.Proofs.Palim

theorem list_eq_ofB {α : Type} {a b : List α} (hl : a.length = b.length) (h : ∀ (j : Nat) (h0 : j < a.length) (h1 : j < b.length), a[j] = b[j]) : a = b := List.ext_getElem hl fun j h0 h1 => h j h0 h1
theorem ret_boolB {a b : Bool} (h : a = b) : Ending.returned (.bool a) = Ending.returned (.bool b) := by rw [h]

set_option maxHeartbeats 1000000 in
theorem equalSet_any (va vb : Value) (ss tt : List SetM) (w : World) (ha : Sl w 11 va ss.length (kcs ss)) (hb : Sl w 11 vb tt.length (kcs tt)) (hs : ss.length ≤ 1048576) (ht : tt.length ≤ 1048576) :
    Calls Try.prog 39 #[va, vb] w (Drawn (.bool (decide (ss = tt))) w) := by
  obtain ⟨n, HN⟩ : ∃ n, Hid (ss.length = n) := ⟨_, Lib.hid rfl⟩
  obtain ⟨m, HM⟩ : ∃ m, Hid (tt.length = m) := ⟨_, Lib.hid rfl⟩
  rw [HN.out] at ha hs
  rw [HM.out] at hb ht
  by_cases hnm : n = m
  · subst hnm
    by_cases hn : n = 0
    · subst hn
      have HE := Lib.hid (show ss = tt from by rw [List.length_eq_zero_iff.1 HN.out, List.length_eq_zero_iff.1 HM.out])
      obtain ⟨_, A, c, rfl, _, _, _⟩ := ha
      obtain ⟨_, A', c', rfl, _, _, _⟩ := hb
      go_enter Try.func39, Try.ntmps39
      go_wp2
      go_loopw [13] (fun i wr => i = .int .i64 0 ∧ wr = w) (fun _ _ => 0)
      case atStart => exact ⟨rfl, rfl⟩
      case round =>
        obtain ⟨rfl, rfl⟩ := hrel
        go_wp2
        go_ret
        exact ⟨ret_boolB (decide_eq_true HE.out).symm, 0, rfl⟩
    · obtain ⟨b, off, c, rfl, hnc, hcm, hcell⟩ := ha.form (by omega)
      obtain ⟨b', off', c', rfl, hnc', hcm', hcell'⟩ := hb.form (by omega)
      have HC := Lib.hid hcell
      have HC' := Lib.hid hcell'
      unfold maxLen at hcm hcm'
      clear hcell hcell' ha hb
      go_enter Try.func39, Try.ntmps39
      go_wp2
      go_loopw [13] (fun i wr => ∃ (k q : Nat), k ≤ n ∧ i = .int .i64 k ∧ wr = w.drewN q ∧ Hid (∀ (j : Nat) (h0 : j < ss.length) (h1 : j < tt.length), j < k → ss[j] = tt[j])) (fun i _ => n - (intOf i).toNat)
      case atStart => exact ⟨0, 0, Nat.zero_le _, rfl, rfl, Lib.hid (fun j _ _ h => absurd h (Nat.not_lt_zero _))⟩
      case round =>
        obtain ⟨k, q, hk, rfl, rfl, HK⟩ := hrel
        by_cases hlt : k < n
        · have hl0 : k < ss.length := by rw [HN.out]; exact hlt
          have hl1 : k < tt.length := by rw [HM.out]; exact hlt
          have hrx := set_read HC.out k hl0
          have hry := set_read HC'.out k hl1
          have HK1 := Lib.hid (show ss[k] = tt[k] → ∀ (j : Nat) (h0 : j < ss.length) (h1 : j < tt.length), j < k + 1 → ss[j] = tt[j] from fun hh j h0 h1 hj => by
            rcases Nat.lt_succ_iff_lt_or_eq.1 hj with h | rfl
            · exact HK.out j h0 h1 h
            · exact hh)
          have HNE := Lib.hid (show ss[k] ≠ tt[k] → ss ≠ tt from fun hh e => by subst e; exact hh rfl)
          have hk1 : (k : Int) < (n : Int) := by omega
          generalize ss[k] = x at hrx HK1 HNE
          generalize tt[k] = y at hry HK1 HNE
          obtain ⟨g0, g1, g2, g3, g4, g5, g6, g7, g8, g9, g10⟩ := hrx.all
          obtain ⟨q0, q1, q2, q3, q4, q5, q6, q7, q8, q9, q10⟩ := hry.all
          clear hrx hry
          have hgd := guardSet
          clear HK hl0 hl1
          by_cases hxy : x = y
          · have HK2 := Lib.hid (HK1.out hxy)
            subst hxy
            have hq := neqSet x x true (decide_eq_true rfl)
            clear HK1 HNE
            go_wp2_with fail
            go_quiet (fail)
            go_wp2
            go_roundw
            case rel => exact ⟨k + 1, _, by omega, by go_num, rfl, HK2⟩
            case measure => simp [intOf]; omega
          · have HF := Lib.hid (decide_eq_false (HNE.out hxy)).symm
            have hq := neqSet x y false (decide_eq_false hxy)
            clear HK1 HNE hxy
            go_wp2_with fail
            go_quiet (fail)
            go_wp2
            go_ret
            exact ⟨ret_boolB HF.out, q + nq, by simp [World.drewN, Nat.add_assoc]⟩
        · have HE := Lib.hid (show ss = tt from list_eq_ofB (HN.out.trans HM.out.symm) fun j h0 h1 => HK.out j h0 h1 (by have := HN.out; omega))
          clear HK
          go_wp2
          go_ret
          exact ⟨ret_boolB (decide_eq_true HE.out).symm, q, rfl⟩
  · have HE := Lib.hid (decide_eq_false (show ss ≠ tt from fun e => hnm (by rw [← HN.out, ← HM.out, e]))).symm
    obtain ⟨_, A, c, rfl, _, _, _⟩ := ha
    obtain ⟨_, A', c', rfl, _, _, _⟩ := hb
    go_enter Try.func39, Try.ntmps39
    go_wp2
    go_ret
    exact ⟨ret_boolB HE.out, 0, rfl⟩

set_option maxHeartbeats 1000000 in
theorem ImplBookSame_any (va vb : Value) (ss tt : List SetM) (w : World) (ha : BookR w va ss) (hb : BookR w vb tt) (hs : BookShort ss) (ht : BookShort tt) :
    Calls Try.prog 20 #[.agg #[va], .agg #[vb]] w fun e w' => e = .returned (.bool (decide (ss = tt))) ∧ Below w.heap.size w w' := by
  have HA := Lib.hid ha
  have HB := Lib.hid hb
  have HS := Lib.hid hs
  have HT := Lib.hid ht
  clear ha hb hs ht
  obtain ⟨A, c, rfl⟩ := HA.out.form
  obtain ⟨A', c', rfl⟩ := HB.out.form
  obtain ⟨ok, HOK⟩ : ∃ ok, Hid (decide (ss = tt) = ok) := ⟨_, Lib.hid rfl⟩
  rw [HOK.out]
  go_enter Try.func20, Try.ntmps20
  go_wp2_with fail
  obtain ⟨_, _, hsz, hb0⟩ := box2 w #[.slice A ss.length c] #[.slice A' tt.length c'] 25 25
  have HA1 := HA.out.below hb0 (Nat.le_refl _)
  have HB1 := HB.out.below hb0 (Nat.le_refl _)
  refine (equalSet_any _ _ ss tt _ HA1.r HB1.r HS.out.n HT.out.n).mono ?_
  rintro e w2 ⟨rfl, q, rfl⟩
  rw [HOK.out]
  have HW := Lib.hid (below_drewN hb0 q)
  clear hb0 HA1 HB1 hsz
  go_wp2
  go_ret
  exact ⟨rfl, HW.out⟩

set_option maxHeartbeats 1000000 in
theorem BookSame_any (va vb : Value) (ss tt : List SetM) (w : World) (ha : BookR w va ss) (hb : BookR w vb tt) (hs : BookShort ss) (ht : BookShort tt) :
    Calls Try.prog 19 #[.agg #[va], .agg #[vb]] w fun e w' => e = .returned (.bool (decide (ss = tt))) ∧ Below w.heap.size w w' := by
  obtain ⟨_, _, hszW, hb0⟩ := box2 w #[va] #[vb] 25 25
  have hX := (box2 w #[va] #[vb] 25 25).1
  have hY := (box2 w #[va] #[vb] 25 25).2.1
  have ha1 := (ha.below hb0 (Nat.le_refl _)).r
  have hb1 := (hb.below hb0 (Nat.le_refl _)).r
  have hs1 := hs.n
  have ht1 := ht.n
  clear ha hb hs ht
  obtain ⟨n, HN⟩ : ∃ n, Hid (ss.length = n) := ⟨_, Lib.hid rfl⟩
  obtain ⟨m, HM⟩ : ∃ m, Hid (tt.length = m) := ⟨_, Lib.hid rfl⟩
  rw [HN.out] at ha1 hs1
  rw [HM.out] at hb1 ht1
  by_cases hnm : n = m
  · subst hnm
    by_cases hn : n = 0
    · subst hn
      have HE := Lib.hid (show ss = tt from by rw [List.length_eq_zero_iff.1 HN.out, List.length_eq_zero_iff.1 HM.out])
      obtain ⟨_, A, c, rfl, _, _, _⟩ := ha1
      obtain ⟨_, A', c', rfl, _, _, _⟩ := hb1
      have HW := Lib.hid hb0
      clear hX hY hb0 hszW
      go_enter Try.func19, Try.ntmps19
      go_wp2
      go_loop [5] (fun i => i = .int .i64 0) (fun _ => 0)
      case atStart => rfl
      case round =>
        subst hrel
        go_wp2
        go_ret
        exact ⟨ret_boolB (decide_eq_true HE.out).symm, HW.out⟩
    · obtain ⟨b, off, c, rfl, hnc, hcm, hcell⟩ := ha1.form (by omega)
      obtain ⟨b', off', c', rfl, hnc', hcm', hcell'⟩ := hb1.form (by omega)
      have HC := Lib.hid hcell
      have HC' := Lib.hid hcell'
      have HW := Lib.hid hb0
      have HX := Lib.hid hX
      have HY := Lib.hid hY
      unfold maxLen at hcm hcm'
      clear hcell hcell' ha1 hb1 hb0 hX hY
      go_enter Try.func19, Try.ntmps19
      go_wp2
      generalize ((w.alloc (.cells #[.slice (some ⟨b, off, none⟩) n c] 25)).alloc (.cells #[.slice (some ⟨b', off', none⟩) n c'] 25)) = W at HC HC' HW HX HY hszW
      have x0 := HX.out.cell 0 rfl
      have y0 := HY.out.cell 0 rfl
      go_loopw [5] (fun i wr => ∃ (k q : Nat), k ≤ n ∧ i = .int .i64 k ∧ wr = W.drewN q ∧ Hid (∀ (j : Nat) (h0 : j < ss.length) (h1 : j < tt.length), j < k → ss[j] = tt[j])) (fun i _ => n - (intOf i).toNat)
      case atStart => exact ⟨0, 0, Nat.zero_le _, rfl, rfl, Lib.hid (fun j _ _ h => absurd h (Nat.not_lt_zero _))⟩
      case round =>
        obtain ⟨k, q, hk, rfl, rfl, HK⟩ := hrel
        by_cases hlt : k < n
        · have hl0 : k < ss.length := by rw [HN.out]; exact hlt
          have hl1 : k < tt.length := by rw [HM.out]; exact hlt
          have hrx := set_read HC.out k hl0
          have hry := set_read HC'.out k hl1
          have HK1 := Lib.hid (show ss[k] = tt[k] → ∀ (j : Nat) (h0 : j < ss.length) (h1 : j < tt.length), j < k + 1 → ss[j] = tt[j] from fun hh j h0 h1 hj => by
            rcases Nat.lt_succ_iff_lt_or_eq.1 hj with h | rfl
            · exact HK.out j h0 h1 h
            · exact hh)
          have HNE := Lib.hid (show ss[k] ≠ tt[k] → ss ≠ tt from fun hh e => by subst e; exact hh rfl)
          have hk1 : (k : Int) < (n : Int) := by omega
          generalize ss[k] = x at hrx HK1 HNE
          generalize tt[k] = y at hry HK1 HNE
          obtain ⟨g0, g1, g2, g3, g4, g5, g6, g7, g8, g9, g10⟩ := hrx.all
          obtain ⟨q0, q1, q2, q3, q4, q5, q6, q7, q8, q9, q10⟩ := hry.all
          clear hrx hry
          have hgd := guardSet
          clear HK hl0 hl1
          by_cases hxy : x = y
          · have HK2 := Lib.hid (HK1.out hxy)
            subst hxy
            have hq := neqSet x x true (decide_eq_true rfl)
            clear HK1 HNE
            go_wp2_with fail
            go_quiet (fail)
            go_wp2
            go_roundw
            case rel => exact ⟨k + 1, _, by omega, by go_num, rfl, HK2⟩
            case measure => simp [intOf]; omega
          · have HF := Lib.hid (decide_eq_false (HNE.out hxy)).symm
            have hq := neqSet x y false (decide_eq_false hxy)
            clear HK1 HNE hxy
            go_wp2_with fail
            go_quiet (fail)
            go_wp2
            go_ret
            exact ⟨ret_boolB HF.out, below_drewN (below_drewN HW.out q) nq⟩
        · have HE := Lib.hid (show ss = tt from list_eq_ofB (HN.out.trans HM.out.symm) fun j h0 h1 => HK.out j h0 h1 (by have := HN.out; omega))
          clear HK
          go_wp2
          go_ret
          exact ⟨ret_boolB (decide_eq_true HE.out).symm, below_drewN HW.out q⟩
  · have HE := Lib.hid (decide_eq_false (show ss ≠ tt from fun e => hnm (by rw [← HN.out, ← HM.out, e]))).symm
    obtain ⟨_, A, c, rfl, _, _, _⟩ := ha1
    obtain ⟨_, A', c', rfl, _, _, _⟩ := hb1
    have HW := Lib.hid hb0
    clear hX hY hb0 hszW
    go_enter Try.func19, Try.ntmps19
    go_wp2
    go_ret
    exact ⟨ret_boolB HE.out, HW.out⟩
end Go.Proofs.Ytpinjdmjfbmigaa
