/-
  slices.Equal at the core's lists, and spec's l6Ints.
-/
import Derived.Test.YtobjgdnmlibofaaEqF
import Derived.Test.YtobjgdnmlibofaaData
set_option maxRecDepth 100000
namespace Go.Proofs.Ytobjgdnmlibofaa
open Go.ChangeShapes Go.WideShapes Go.ChangeAt Go.RowKit Go.Proofs.Palim

theorem guardPtr (op : BinOp) (a b : Operand) (xs ys : Array Value) (w : World) : (eqGuard op 66 a b (.agg xs) (.agg ys)).run Try.prog w = .ok () w := run_eqGuard_agg w op 66 a b xs ys (by kernel_rfl)
theorem guardEnt (op : BinOp) (a b : Operand) (xs ys : Array Value) (w : World) : (eqGuard op 71 a b (.agg xs) (.agg ys)).run Try.prog w = .ok () w := run_eqGuard_agg w op 71 a b xs ys (by kernel_rfl)
theorem guardCSet (op : BinOp) (a b : Operand) (xs ys : Array Value) (w : World) : (eqGuard op 69 a b (.agg xs) (.agg ys)).run Try.prog w = .ok () w := run_eqGuard_agg w op 69 a b xs ys (by kernel_rfl)
theorem neqPtr_is (x y : PtrM) (r : Bool) (h : decide (x = y) = r) (w : World) : (binOp .neq 66 (.agg #[.int .i64 x.at_, .int .i64 x.sum, .int .i64 x.birth]) (.agg #[.int .i64 y.at_, .int .i64 y.sum, .int .i64 y.birth])).run Try.prog w = .ok (.bool (!r)) w := h ▸ neqPtr x y w
theorem neqEnt_is (x y : EntM) (r : Bool) (h : decide (x = y) = r) (w : World) : (binOp .neq 71 (.agg #[.int .i64 x.sum, .int .i64 x.at_, .int .i64 x.count]) (.agg #[.int .i64 y.sum, .int .i64 y.at_, .int .i64 y.count])).run Try.prog w = .ok (.bool (!r)) w := h ▸ neqEnt x y w
theorem neqCSet_is (x y : CSetM) (r : Bool) (h : decide (x = y) = r) (w : World) : (binOp .neq 69 (.agg (cc x).toArray) (.agg (cc y).toArray)).run Try.prog w = .ok (.bool (!r)) w := h ▸ neqCSet x y w

set_option maxHeartbeats 2000000 in
theorem equalPt_any (va vb : Value) (ss tt : List PtrM) (w : World) (ha : Sl w 3 va ss.length (pcs ss)) (hb : Sl w 3 vb tt.length (pcs tt)) (hs : ss.length ≤ 1048576) (ht : tt.length ≤ 1048576) :
    Calls Try.prog 37 #[va, vb] w (Drawn (.bool (decide (ss = tt))) w) := by
  obtain ⟨n, HN⟩ : ∃ n, Hid (ss.length = n) := ⟨_, Lib.hid rfl⟩
  obtain ⟨m, HM⟩ : ∃ m, Hid (tt.length = m) := ⟨_, Lib.hid rfl⟩
  rw [HN.out] at ha hs
  rw [HM.out] at hb ht
  by_cases hnm : n = m
  · subst hnm
    by_cases hn : n = 0
    · subst hn
      have HE := Lib.hid (show ss = tt from by rw [List.length_eq_zero_iff.1 HN.out, List.length_eq_zero_iff.1 HM.out])
      obtain ⟨_, A, c, rfl, _, _, _⟩ := ha
      obtain ⟨_, A', c', rfl, _, _, _⟩ := hb
      go_enter Try.func37, Try.ntmps37
      go_wp2
      go_loopw [13] (fun i wr => i = .int .i64 0 ∧ wr = w) (fun _ _ => 0)
      case atStart => exact ⟨rfl, rfl⟩
      case round =>
        obtain ⟨rfl, rfl⟩ := hrel
        go_wp2
        go_ret
        exact ⟨ret_boolB (decide_eq_true HE.out).symm, 0, rfl⟩
    · obtain ⟨b, off, c, rfl, hnc, hcm, hcell⟩ := ha.form (by omega)
      obtain ⟨b', off', c', rfl, hnc', hcm', hcell'⟩ := hb.form (by omega)
      have HC := Lib.hid hcell
      have HC' := Lib.hid hcell'
      unfold maxLen at hcm hcm'
      clear hcell hcell' ha hb
      go_enter Try.func37, Try.ntmps37
      go_wp2
      go_loopw [13] (fun i wr => ∃ (k q : Nat), k ≤ n ∧ i = .int .i64 k ∧ wr = w.drewN q ∧ Hid (∀ (j : Nat) (h0 : j < ss.length) (h1 : j < tt.length), j < k → ss[j] = tt[j])) (fun i _ => n - (intOf i).toNat)
      case atStart => exact ⟨0, 0, Nat.zero_le _, rfl, rfl, Lib.hid (fun j _ _ h => absurd h (Nat.not_lt_zero _))⟩
      case round =>
        obtain ⟨k, q, hk, rfl, rfl, HK⟩ := hrel
        by_cases hlt : k < n
        · have hl0 : k < ss.length := by rw [HN.out]; exact hlt
          have hl1 : k < tt.length := by rw [HM.out]; exact hlt
          have hrx := ptr_read HC.out k hl0
          have hry := ptr_read HC'.out k hl1
          have HK1 := Lib.hid (show ss[k] = tt[k] → ∀ (j : Nat) (h0 : j < ss.length) (h1 : j < tt.length), j < k + 1 → ss[j] = tt[j] from fun hh j h0 h1 hj => by
            rcases Nat.lt_succ_iff_lt_or_eq.1 hj with h | rfl
            · exact HK.out j h0 h1 h
            · exact hh)
          have HNE := Lib.hid (show ss[k] ≠ tt[k] → ss ≠ tt from fun hh e => by subst e; exact hh rfl)
          have hk1 : (k : Int) < (n : Int) := by omega
          generalize ss[k] = x at hrx HK1 HNE
          generalize tt[k] = y at hry HK1 HNE
          obtain ⟨p1, p2, p3⟩ := hrx
          obtain ⟨r1, r2, r3⟩ := hry
          have hgd := guardPtr
          clear HK hl0 hl1
          by_cases hxy : x = y
          · have HK2 := Lib.hid (HK1.out hxy)
            subst hxy
            have hq := neqPtr_is x x true (decide_eq_true rfl)
            clear HK1 HNE
            go_wp2_with fail
            go_quiet (fail)
            go_wp2
            go_roundw
            case rel => exact ⟨k + 1, _, by omega, by go_num, rfl, HK2⟩
            case measure => simp [intOf]; omega
          · have HF := Lib.hid (decide_eq_false (HNE.out hxy)).symm
            have hq := neqPtr_is x y false (decide_eq_false hxy)
            clear hxy
            clear HK1 HNE
            go_wp2_with fail
            go_quiet (fail)
            go_wp2
            go_ret
            exact ⟨ret_boolB HF.out, q + nq, by simp [World.drewN, Nat.add_assoc]⟩
        · have HE := Lib.hid (show ss = tt from list_eq_ofB (HN.out.trans HM.out.symm) fun j h0 h1 => HK.out j h0 h1 (by have := HN.out; omega))
          clear HK
          go_wp2
          go_ret
          exact ⟨ret_boolB (decide_eq_true HE.out).symm, q, rfl⟩
  · have HE := Lib.hid (decide_eq_false (show ss ≠ tt from fun e => hnm (by rw [← HN.out, ← HM.out, e]))).symm
    obtain ⟨_, A, c, rfl, _, _, _⟩ := ha
    obtain ⟨_, A', c', rfl, _, _, _⟩ := hb
    go_enter Try.func37, Try.ntmps37
    go_wp2
    go_ret
    exact ⟨ret_boolB HE.out, 0, rfl⟩

set_option maxHeartbeats 2000000 in
theorem equalEn_any (va vb : Value) (ss tt : List EntM) (w : World) (ha : Sl w 3 va ss.length (ecs ss)) (hb : Sl w 3 vb tt.length (ecs tt)) (hs : ss.length ≤ 1048576) (ht : tt.length ≤ 1048576) :
    Calls Try.prog 36 #[va, vb] w (Drawn (.bool (decide (ss = tt))) w) := by
  obtain ⟨n, HN⟩ : ∃ n, Hid (ss.length = n) := ⟨_, Lib.hid rfl⟩
  obtain ⟨m, HM⟩ : ∃ m, Hid (tt.length = m) := ⟨_, Lib.hid rfl⟩
  rw [HN.out] at ha hs
  rw [HM.out] at hb ht
  by_cases hnm : n = m
  · subst hnm
    by_cases hn : n = 0
    · subst hn
      have HE := Lib.hid (show ss = tt from by rw [List.length_eq_zero_iff.1 HN.out, List.length_eq_zero_iff.1 HM.out])
      obtain ⟨_, A, c, rfl, _, _, _⟩ := ha
      obtain ⟨_, A', c', rfl, _, _, _⟩ := hb
      go_enter Try.func36, Try.ntmps36
      go_wp2
      go_loopw [13] (fun i wr => i = .int .i64 0 ∧ wr = w) (fun _ _ => 0)
      case atStart => exact ⟨rfl, rfl⟩
      case round =>
        obtain ⟨rfl, rfl⟩ := hrel
        go_wp2
        go_ret
        exact ⟨ret_boolB (decide_eq_true HE.out).symm, 0, rfl⟩
    · obtain ⟨b, off, c, rfl, hnc, hcm, hcell⟩ := ha.form (by omega)
      obtain ⟨b', off', c', rfl, hnc', hcm', hcell'⟩ := hb.form (by omega)
      have HC := Lib.hid hcell
      have HC' := Lib.hid hcell'
      unfold maxLen at hcm hcm'
      clear hcell hcell' ha hb
      go_enter Try.func36, Try.ntmps36
      go_wp2
      go_loopw [13] (fun i wr => ∃ (k q : Nat), k ≤ n ∧ i = .int .i64 k ∧ wr = w.drewN q ∧ Hid (∀ (j : Nat) (h0 : j < ss.length) (h1 : j < tt.length), j < k → ss[j] = tt[j])) (fun i _ => n - (intOf i).toNat)
      case atStart => exact ⟨0, 0, Nat.zero_le _, rfl, rfl, Lib.hid (fun j _ _ h => absurd h (Nat.not_lt_zero _))⟩
      case round =>
        obtain ⟨k, q, hk, rfl, rfl, HK⟩ := hrel
        by_cases hlt : k < n
        · have hl0 : k < ss.length := by rw [HN.out]; exact hlt
          have hl1 : k < tt.length := by rw [HM.out]; exact hlt
          have hrx := ent_read HC.out k hl0
          have hry := ent_read HC'.out k hl1
          have HK1 := Lib.hid (show ss[k] = tt[k] → ∀ (j : Nat) (h0 : j < ss.length) (h1 : j < tt.length), j < k + 1 → ss[j] = tt[j] from fun hh j h0 h1 hj => by
            rcases Nat.lt_succ_iff_lt_or_eq.1 hj with h | rfl
            · exact HK.out j h0 h1 h
            · exact hh)
          have HNE := Lib.hid (show ss[k] ≠ tt[k] → ss ≠ tt from fun hh e => by subst e; exact hh rfl)
          have hk1 : (k : Int) < (n : Int) := by omega
          generalize ss[k] = x at hrx HK1 HNE
          generalize tt[k] = y at hry HK1 HNE
          obtain ⟨p1, p2, p3⟩ := hrx
          obtain ⟨r1, r2, r3⟩ := hry
          have hgd := guardEnt
          clear HK hl0 hl1
          by_cases hxy : x = y
          · have HK2 := Lib.hid (HK1.out hxy)
            subst hxy
            have hq := neqEnt_is x x true (decide_eq_true rfl)
            clear HK1 HNE
            go_wp2_with fail
            go_quiet (fail)
            go_wp2
            go_roundw
            case rel => exact ⟨k + 1, _, by omega, by go_num, rfl, HK2⟩
            case measure => simp [intOf]; omega
          · have HF := Lib.hid (decide_eq_false (HNE.out hxy)).symm
            have hq := neqEnt_is x y false (decide_eq_false hxy)
            clear hxy
            clear HK1 HNE
            go_wp2_with fail
            go_quiet (fail)
            go_wp2
            go_ret
            exact ⟨ret_boolB HF.out, q + nq, by simp [World.drewN, Nat.add_assoc]⟩
        · have HE := Lib.hid (show ss = tt from list_eq_ofB (HN.out.trans HM.out.symm) fun j h0 h1 => HK.out j h0 h1 (by have := HN.out; omega))
          clear HK
          go_wp2
          go_ret
          exact ⟨ret_boolB (decide_eq_true HE.out).symm, q, rfl⟩
  · have HE := Lib.hid (decide_eq_false (show ss ≠ tt from fun e => hnm (by rw [← HN.out, ← HM.out, e]))).symm
    obtain ⟨_, A, c, rfl, _, _, _⟩ := ha
    obtain ⟨_, A', c', rfl, _, _, _⟩ := hb
    go_enter Try.func36, Try.ntmps36
    go_wp2
    go_ret
    exact ⟨ret_boolB HE.out, 0, rfl⟩

set_option maxHeartbeats 2000000 in
theorem equalIn_any (va vb : Value) (ss tt : List Int) (w : World) (ha : Sl w 1 va ss.length (ics ss)) (hb : Sl w 1 vb tt.length (ics tt)) (hs : ss.length ≤ 1048576) (ht : tt.length ≤ 1048576) :
    Calls Try.prog 38 #[va, vb] w (Drawn (.bool (decide (ss = tt))) w) := by
  obtain ⟨n, HN⟩ : ∃ n, Hid (ss.length = n) := ⟨_, Lib.hid rfl⟩
  obtain ⟨m, HM⟩ : ∃ m, Hid (tt.length = m) := ⟨_, Lib.hid rfl⟩
  rw [HN.out] at ha hs
  rw [HM.out] at hb ht
  by_cases hnm : n = m
  · subst hnm
    by_cases hn : n = 0
    · subst hn
      have HE := Lib.hid (show ss = tt from by rw [List.length_eq_zero_iff.1 HN.out, List.length_eq_zero_iff.1 HM.out])
      obtain ⟨_, A, c, rfl, _, _, _⟩ := ha
      obtain ⟨_, A', c', rfl, _, _, _⟩ := hb
      go_enter Try.func38, Try.ntmps38
      go_wp2
      go_loopw [13] (fun i wr => i = .int .i64 0 ∧ wr = w) (fun _ _ => 0)
      case atStart => exact ⟨rfl, rfl⟩
      case round =>
        obtain ⟨rfl, rfl⟩ := hrel
        go_wp2
        go_ret
        exact ⟨ret_boolB (decide_eq_true HE.out).symm, 0, rfl⟩
    · obtain ⟨b, off, c, rfl, hnc, hcm, hcell⟩ := ha.form (by omega)
      obtain ⟨b', off', c', rfl, hnc', hcm', hcell'⟩ := hb.form (by omega)
      have HC := Lib.hid hcell
      have HC' := Lib.hid hcell'
      unfold maxLen at hcm hcm'
      clear hcell hcell' ha hb
      go_enter Try.func38, Try.ntmps38
      go_wp2
      go_loopw [13] (fun i wr => ∃ (k q : Nat), k ≤ n ∧ i = .int .i64 k ∧ wr = w.drewN q ∧ Hid (∀ (j : Nat) (h0 : j < ss.length) (h1 : j < tt.length), j < k → ss[j] = tt[j])) (fun i _ => n - (intOf i).toNat)
      case atStart => exact ⟨0, 0, Nat.zero_le _, rfl, rfl, Lib.hid (fun j _ _ h => absurd h (Nat.not_lt_zero _))⟩
      case round =>
        obtain ⟨k, q, hk, rfl, rfl, HK⟩ := hrel
        by_cases hlt : k < n
        · have hl0 : k < ss.length := by rw [HN.out]; exact hlt
          have hl1 : k < tt.length := by rw [HM.out]; exact hlt
          have hrx : w.cell? ⟨b, off + k, none⟩ = some (.int .i64 ss[k]) := HC.out k _ (by simp [ics, hl0])
          have hry : w.cell? ⟨b', off' + k, none⟩ = some (.int .i64 tt[k]) := HC'.out k _ (by simp [ics, hl1])
          have HK1 := Lib.hid (show ss[k] = tt[k] → ∀ (j : Nat) (h0 : j < ss.length) (h1 : j < tt.length), j < k + 1 → ss[j] = tt[j] from fun hh j h0 h1 hj => by
            rcases Nat.lt_succ_iff_lt_or_eq.1 hj with h | rfl
            · exact HK.out j h0 h1 h
            · exact hh)
          have HNE := Lib.hid (show ss[k] ≠ tt[k] → ss ≠ tt from fun hh e => by subst e; exact hh rfl)
          have hk1 : (k : Int) < (n : Int) := by omega
          generalize ss[k] = x at hrx HK1 HNE
          generalize tt[k] = y at hry HK1 HNE
          clear HK hl0 hl1
          by_cases hxy : x = y
          · have HK2 := Lib.hid (HK1.out hxy)
            subst hxy
            clear HK1 HNE
            go_wp2_with fail
            go_quiet (fail)
            go_wp2
            go_roundw
            case rel => exact ⟨k + 1, _, by omega, by go_num, rfl, HK2⟩
            case measure => simp [intOf]; omega
          · have HF := Lib.hid (decide_eq_false (HNE.out hxy)).symm
            have hxy2 : (x == y) = false := by simp [hxy]
            clear HK1 HNE
            go_wp2_with fail
            go_quiet (fail)
            go_wp2
            go_ret
            exact ⟨ret_boolB HF.out, q + nq, by simp [World.drewN, Nat.add_assoc]⟩
        · have HE := Lib.hid (show ss = tt from list_eq_ofB (HN.out.trans HM.out.symm) fun j h0 h1 => HK.out j h0 h1 (by have := HN.out; omega))
          clear HK
          go_wp2
          go_ret
          exact ⟨ret_boolB (decide_eq_true HE.out).symm, q, rfl⟩
  · have HE := Lib.hid (decide_eq_false (show ss ≠ tt from fun e => hnm (by rw [← HN.out, ← HM.out, e]))).symm
    obtain ⟨_, A, c, rfl, _, _, _⟩ := ha
    obtain ⟨_, A', c', rfl, _, _, _⟩ := hb
    go_enter Try.func38, Try.ntmps38
    go_wp2
    go_ret
    exact ⟨ret_boolB HE.out, 0, rfl⟩

set_option maxHeartbeats 2000000 in
theorem l6Ints_any (va vb : Value) (ss tt : List Int) (w : World) (ha : Sl w 1 va ss.length (ics ss)) (hb : Sl w 1 vb tt.length (ics tt)) (hs : ss.length ≤ 1048576) (ht : tt.length ≤ 1048576) :
    Calls Try.prog 26 #[va, vb] w (Drawn (.bool (decide (ss = tt))) w) := by
  obtain ⟨n, HN⟩ : ∃ n, Hid (ss.length = n) := ⟨_, Lib.hid rfl⟩
  obtain ⟨m, HM⟩ : ∃ m, Hid (tt.length = m) := ⟨_, Lib.hid rfl⟩
  rw [HN.out] at ha hs
  rw [HM.out] at hb ht
  by_cases hnm : n = m
  · subst hnm
    by_cases hn : n = 0
    · subst hn
      have HE := Lib.hid (show ss = tt from by rw [List.length_eq_zero_iff.1 HN.out, List.length_eq_zero_iff.1 HM.out])
      obtain ⟨_, A, c, rfl, _, _, _⟩ := ha
      obtain ⟨_, A', c', rfl, _, _, _⟩ := hb
      go_enter Try.func26, Try.ntmps26
      go_wp2
      go_loopw [5] (fun i wr => i = .int .i64 0 ∧ wr = w) (fun _ _ => 0)
      case atStart => exact ⟨rfl, rfl⟩
      case round =>
        obtain ⟨rfl, rfl⟩ := hrel
        go_wp2
        go_ret
        exact ⟨ret_boolB (decide_eq_true HE.out).symm, 0, rfl⟩
    · obtain ⟨b, off, c, rfl, hnc, hcm, hcell⟩ := ha.form (by omega)
      obtain ⟨b', off', c', rfl, hnc', hcm', hcell'⟩ := hb.form (by omega)
      have HC := Lib.hid hcell
      have HC' := Lib.hid hcell'
      unfold maxLen at hcm hcm'
      clear hcell hcell' ha hb
      go_enter Try.func26, Try.ntmps26
      go_wp2
      go_loopw [5] (fun i wr => ∃ (k q : Nat), k ≤ n ∧ i = .int .i64 k ∧ wr = w.drewN q ∧ Hid (∀ (j : Nat) (h0 : j < ss.length) (h1 : j < tt.length), j < k → ss[j] = tt[j])) (fun i _ => n - (intOf i).toNat)
      case atStart => exact ⟨0, 0, Nat.zero_le _, rfl, rfl, Lib.hid (fun j _ _ h => absurd h (Nat.not_lt_zero _))⟩
      case round =>
        obtain ⟨k, q, hk, rfl, rfl, HK⟩ := hrel
        by_cases hlt : k < n
        · have hl0 : k < ss.length := by rw [HN.out]; exact hlt
          have hl1 : k < tt.length := by rw [HM.out]; exact hlt
          have hrx : w.cell? ⟨b, off + k, none⟩ = some (.int .i64 ss[k]) := HC.out k _ (by simp [ics, hl0])
          have hry : w.cell? ⟨b', off' + k, none⟩ = some (.int .i64 tt[k]) := HC'.out k _ (by simp [ics, hl1])
          have HK1 := Lib.hid (show ss[k] = tt[k] → ∀ (j : Nat) (h0 : j < ss.length) (h1 : j < tt.length), j < k + 1 → ss[j] = tt[j] from fun hh j h0 h1 hj => by
            rcases Nat.lt_succ_iff_lt_or_eq.1 hj with h | rfl
            · exact HK.out j h0 h1 h
            · exact hh)
          have HNE := Lib.hid (show ss[k] ≠ tt[k] → ss ≠ tt from fun hh e => by subst e; exact hh rfl)
          have hk1 : (k : Int) < (n : Int) := by omega
          generalize ss[k] = x at hrx HK1 HNE
          generalize tt[k] = y at hry HK1 HNE
          clear HK hl0 hl1
          by_cases hxy : x = y
          · have HK2 := Lib.hid (HK1.out hxy)
            subst hxy
            clear HK1 HNE
            go_wp2_with fail
            go_quiet (fail)
            go_wp2
            go_roundw
            case rel => exact ⟨k + 1, _, by omega, by go_num, rfl, HK2⟩
            case measure => simp [intOf]; omega
          · have HF := Lib.hid (decide_eq_false (HNE.out hxy)).symm
            have hxy2 : (x == y) = false := by simp [hxy]
            clear HK1 HNE
            go_wp2_with fail
            go_quiet (fail)
            go_wp2
            go_ret
            exact ⟨ret_boolB HF.out, q + nq, by simp [World.drewN, Nat.add_assoc]⟩
        · have HE := Lib.hid (show ss = tt from list_eq_ofB (HN.out.trans HM.out.symm) fun j h0 h1 => HK.out j h0 h1 (by have := HN.out; omega))
          clear HK
          go_wp2
          go_ret
          exact ⟨ret_boolB (decide_eq_true HE.out).symm, q, rfl⟩
  · have HE := Lib.hid (decide_eq_false (show ss ≠ tt from fun e => hnm (by rw [← HN.out, ← HM.out, e]))).symm
    obtain ⟨_, A, c, rfl, _, _, _⟩ := ha
    obtain ⟨_, A', c', rfl, _, _, _⟩ := hb
    go_enter Try.func26, Try.ntmps26
    go_wp2
    go_ret
    exact ⟨ret_boolB HE.out, 0, rfl⟩

set_option maxHeartbeats 2000000 in
theorem equalCSet_any (va vb : Value) (ss tt : List CSetM) (w : World) (ha : Sl w 31 va ss.length (ccs ss)) (hb : Sl w 31 vb tt.length (ccs tt)) (hs : ss.length ≤ 1048576) (ht : tt.length ≤ 1048576) :
    Calls Try.prog 35 #[va, vb] w (Drawn (.bool (decide (ss = tt))) w) := by
  obtain ⟨n, HN⟩ : ∃ n, Hid (ss.length = n) := ⟨_, Lib.hid rfl⟩
  obtain ⟨m, HM⟩ : ∃ m, Hid (tt.length = m) := ⟨_, Lib.hid rfl⟩
  rw [HN.out] at ha hs
  rw [HM.out] at hb ht
  by_cases hnm : n = m
  · subst hnm
    by_cases hn : n = 0
    · subst hn
      have HE := Lib.hid (show ss = tt from by rw [List.length_eq_zero_iff.1 HN.out, List.length_eq_zero_iff.1 HM.out])
      obtain ⟨_, A, c, rfl, _, _, _⟩ := ha
      obtain ⟨_, A', c', rfl, _, _, _⟩ := hb
      go_enter Try.func35, Try.ntmps35
      go_wp2
      go_loopw [13] (fun i wr => i = .int .i64 0 ∧ wr = w) (fun _ _ => 0)
      case atStart => exact ⟨rfl, rfl⟩
      case round =>
        obtain ⟨rfl, rfl⟩ := hrel
        go_wp2
        go_ret
        exact ⟨ret_boolB (decide_eq_true HE.out).symm, 0, rfl⟩
    · obtain ⟨b, off, c, rfl, hnc, hcm, hcell⟩ := ha.form (by omega)
      obtain ⟨b', off', c', rfl, hnc', hcm', hcell'⟩ := hb.form (by omega)
      have HC := Lib.hid hcell
      have HC' := Lib.hid hcell'
      unfold maxLen at hcm hcm'
      clear hcell hcell' ha hb
      go_enter Try.func35, Try.ntmps35
      go_wp2
      go_loopw [13] (fun i wr => ∃ (k q : Nat), k ≤ n ∧ i = .int .i64 k ∧ wr = w.drewN q ∧ Hid (∀ (j : Nat) (h0 : j < ss.length) (h1 : j < tt.length), j < k → ss[j] = tt[j])) (fun i _ => n - (intOf i).toNat)
      case atStart => exact ⟨0, 0, Nat.zero_le _, rfl, rfl, Lib.hid (fun j _ _ h => absurd h (Nat.not_lt_zero _))⟩
      case round =>
        obtain ⟨k, q, hk, rfl, rfl, HK⟩ := hrel
        by_cases hlt : k < n
        · have hl0 : k < ss.length := by rw [HN.out]; exact hlt
          have hl1 : k < tt.length := by rw [HM.out]; exact hlt
          have hrx := cset_read HC.out k hl0
          have hry := cset_read HC'.out k hl1
          have HK1 := Lib.hid (show ss[k] = tt[k] → ∀ (j : Nat) (h0 : j < ss.length) (h1 : j < tt.length), j < k + 1 → ss[j] = tt[j] from fun hh j h0 h1 hj => by
            rcases Nat.lt_succ_iff_lt_or_eq.1 hj with h | rfl
            · exact HK.out j h0 h1 h
            · exact hh)
          have HNE := Lib.hid (show ss[k] ≠ tt[k] → ss ≠ tt from fun hh e => by subst e; exact hh rfl)
          have hk1 : (k : Int) < (n : Int) := by omega
          generalize ss[k] = x at hrx HK1 HNE
          generalize tt[k] = y at hry HK1 HNE
          have hgd := guardCSet
          clear HK hl0 hl1
          by_cases hxy : x = y
          · have HK2 := Lib.hid (HK1.out hxy)
            subst hxy
            have hq := neqCSet_is x x true (decide_eq_true rfl)
            clear HK1 HNE
            go_wp2_with fail
            refine wp_region_held_drew (S := fun w' => (∀ j u, (cc x)[j]? = some u → w'.cell? ⟨b, off + k * 31 + j, none⟩ = some u) ∧ (∀ j u, (cc x)[j]? = some u → w'.cell? ⟨b', off' + k * 31 + j, none⟩ = some u)) (by kernel_rfl) ⟨hrx, hry⟩ (fun hHeld => ?_)
            refine wpAnyH_take (i := 0) (v := ?_) rfl (by kernel_rfl) (by kernel_rfl) (by kernel_rfl) (fun _ _ _ h => h) (Or.inl ⟨by first | kernel_rfl | rfl, ?_⟩) (by assumption) ?_
            rotate_left
            · (intro w' hSw; (try (have hSx := hSw.2.2; obtain ⟨hS1, hS2⟩ := hSx)); clear hSw; go_simp; try with_reducible rfl)
            try simp only [Act.put]
            refine wpAnyH_take (i := 1) (v := ?_) rfl (by kernel_rfl) (by kernel_rfl) (by kernel_rfl) (fun _ _ _ h => h) (Or.inl ⟨by first | kernel_rfl | rfl, ?_⟩) (by assumption) ?_
            rotate_left
            · (intro w' hSw; (try (have hSx := hSw.2.2; obtain ⟨hS1, hS2⟩ := hSx)); clear hSw; go_simp; try with_reducible rfl)
            try simp only [Act.put]
            refine wpAnyH_take (i := 2) (v := ?_) rfl (by kernel_rfl) (by kernel_rfl) (by kernel_rfl) (fun _ _ _ h => h) (Or.inl ⟨by first | kernel_rfl | rfl, ?_⟩) (by assumption) ?_
            rotate_left
            · (intro w' hSw; (try (have hSx := hSw.2.2; obtain ⟨hS1, hS2⟩ := hSx)); clear hSw; go_simp; try with_reducible rfl)
            try simp only [Act.put]
            refine wpAnyH_take (i := 3) (v := .agg (cc x).toArray) rfl (by kernel_rfl) (by kernel_rfl) (by kernel_rfl) (fun _ _ _ h => h) (Or.inl ⟨by first | kernel_rfl | rfl, fun w' hSw => exec_load_cs _ rfl aggSet rfl (cc x) (cc_length x) hSw.1⟩) (by assumption) ?_
            try simp only [Act.put]
            refine wpAnyH_take (i := 4) (v := ?_) rfl (by kernel_rfl) (by kernel_rfl) (by kernel_rfl) (fun _ _ _ h => h) (Or.inl ⟨by first | kernel_rfl | rfl, ?_⟩) (by assumption) ?_
            rotate_left
            · (intro w' hSw; (try (have hSx := hSw.2.2; obtain ⟨hS1, hS2⟩ := hSx)); clear hSw; go_simp; try with_reducible rfl)
            try simp only [Act.put]
            refine wpAnyH_take (i := 5) (v := ?_) rfl (by kernel_rfl) (by kernel_rfl) (by kernel_rfl) (fun _ _ _ h => h) (Or.inl ⟨by first | kernel_rfl | rfl, ?_⟩) (by assumption) ?_
            rotate_left
            · (intro w' hSw; (try (have hSx := hSw.2.2; obtain ⟨hS1, hS2⟩ := hSx)); clear hSw; go_simp; try with_reducible rfl)
            try simp only [Act.put]
            refine wpAnyH_take (i := 6) (v := ?_) rfl (by kernel_rfl) (by kernel_rfl) (by kernel_rfl) (fun _ _ _ h => h) (Or.inl ⟨by first | kernel_rfl | rfl, ?_⟩) (by assumption) ?_
            rotate_left
            · (intro w' hSw; (try (have hSx := hSw.2.2; obtain ⟨hS1, hS2⟩ := hSx)); clear hSw; go_simp; try with_reducible rfl)
            try simp only [Act.put]
            refine wpAnyH_take (i := 7) (v := .agg (cc x).toArray) rfl (by kernel_rfl) (by kernel_rfl) (by kernel_rfl) (fun _ _ _ h => h) (Or.inl ⟨by first | kernel_rfl | rfl, fun w' hSw => exec_load_cs _ rfl aggSet rfl (cc x) (cc_length x) hSw.2⟩) (by assumption) ?_
            try simp only [Act.put]
            refine wpAnyH_take (i := 8) (v := ?_) rfl (by kernel_rfl) (by kernel_rfl) (by kernel_rfl) (fun _ _ _ h => h) (Or.inl ⟨by first | kernel_rfl | rfl, ?_⟩) (by assumption) ?_
            rotate_left
            · (intro w' hSw; (try (have hSx := hSw.2.2; obtain ⟨hS1, hS2⟩ := hSx)); clear hSw; go_simp; try with_reducible rfl)
            try simp only [Act.put]
            refine wpAnyH_done (by kernel_rfl) ?_ _
            go_simp
            clear hHeld
            go_wp2
            go_roundw
            case rel => exact ⟨k + 1, q + 1, by omega, by go_num, rfl, HK2⟩
            case measure => simp [intOf]; omega
          · have HF := Lib.hid (decide_eq_false (HNE.out hxy)).symm
            have hq := neqCSet_is x y false (decide_eq_false hxy)
            clear hxy
            clear HK1 HNE
            go_wp2_with fail
            refine wp_region_held_drew (S := fun w' => (∀ j u, (cc x)[j]? = some u → w'.cell? ⟨b, off + k * 31 + j, none⟩ = some u) ∧ (∀ j u, (cc y)[j]? = some u → w'.cell? ⟨b', off' + k * 31 + j, none⟩ = some u)) (by kernel_rfl) ⟨hrx, hry⟩ (fun hHeld => ?_)
            refine wpAnyH_take (i := 0) (v := ?_) rfl (by kernel_rfl) (by kernel_rfl) (by kernel_rfl) (fun _ _ _ h => h) (Or.inl ⟨by first | kernel_rfl | rfl, ?_⟩) (by assumption) ?_
            rotate_left
            · (intro w' hSw; (try (have hSx := hSw.2.2; obtain ⟨hS1, hS2⟩ := hSx)); clear hSw; go_simp; try with_reducible rfl)
            try simp only [Act.put]
            refine wpAnyH_take (i := 1) (v := ?_) rfl (by kernel_rfl) (by kernel_rfl) (by kernel_rfl) (fun _ _ _ h => h) (Or.inl ⟨by first | kernel_rfl | rfl, ?_⟩) (by assumption) ?_
            rotate_left
            · (intro w' hSw; (try (have hSx := hSw.2.2; obtain ⟨hS1, hS2⟩ := hSx)); clear hSw; go_simp; try with_reducible rfl)
            try simp only [Act.put]
            refine wpAnyH_take (i := 2) (v := ?_) rfl (by kernel_rfl) (by kernel_rfl) (by kernel_rfl) (fun _ _ _ h => h) (Or.inl ⟨by first | kernel_rfl | rfl, ?_⟩) (by assumption) ?_
            rotate_left
            · (intro w' hSw; (try (have hSx := hSw.2.2; obtain ⟨hS1, hS2⟩ := hSx)); clear hSw; go_simp; try with_reducible rfl)
            try simp only [Act.put]
            refine wpAnyH_take (i := 3) (v := .agg (cc x).toArray) rfl (by kernel_rfl) (by kernel_rfl) (by kernel_rfl) (fun _ _ _ h => h) (Or.inl ⟨by first | kernel_rfl | rfl, fun w' hSw => exec_load_cs _ rfl aggSet rfl (cc x) (cc_length x) hSw.1⟩) (by assumption) ?_
            try simp only [Act.put]
            refine wpAnyH_take (i := 4) (v := ?_) rfl (by kernel_rfl) (by kernel_rfl) (by kernel_rfl) (fun _ _ _ h => h) (Or.inl ⟨by first | kernel_rfl | rfl, ?_⟩) (by assumption) ?_
            rotate_left
            · (intro w' hSw; (try (have hSx := hSw.2.2; obtain ⟨hS1, hS2⟩ := hSx)); clear hSw; go_simp; try with_reducible rfl)
            try simp only [Act.put]
            refine wpAnyH_take (i := 5) (v := ?_) rfl (by kernel_rfl) (by kernel_rfl) (by kernel_rfl) (fun _ _ _ h => h) (Or.inl ⟨by first | kernel_rfl | rfl, ?_⟩) (by assumption) ?_
            rotate_left
            · (intro w' hSw; (try (have hSx := hSw.2.2; obtain ⟨hS1, hS2⟩ := hSx)); clear hSw; go_simp; try with_reducible rfl)
            try simp only [Act.put]
            refine wpAnyH_take (i := 6) (v := ?_) rfl (by kernel_rfl) (by kernel_rfl) (by kernel_rfl) (fun _ _ _ h => h) (Or.inl ⟨by first | kernel_rfl | rfl, ?_⟩) (by assumption) ?_
            rotate_left
            · (intro w' hSw; (try (have hSx := hSw.2.2; obtain ⟨hS1, hS2⟩ := hSx)); clear hSw; go_simp; try with_reducible rfl)
            try simp only [Act.put]
            refine wpAnyH_take (i := 7) (v := .agg (cc y).toArray) rfl (by kernel_rfl) (by kernel_rfl) (by kernel_rfl) (fun _ _ _ h => h) (Or.inl ⟨by first | kernel_rfl | rfl, fun w' hSw => exec_load_cs _ rfl aggSet rfl (cc y) (cc_length y) hSw.2⟩) (by assumption) ?_
            try simp only [Act.put]
            refine wpAnyH_take (i := 8) (v := ?_) rfl (by kernel_rfl) (by kernel_rfl) (by kernel_rfl) (fun _ _ _ h => h) (Or.inl ⟨by first | kernel_rfl | rfl, ?_⟩) (by assumption) ?_
            rotate_left
            · (intro w' hSw; (try (have hSx := hSw.2.2; obtain ⟨hS1, hS2⟩ := hSx)); clear hSw; go_simp; try with_reducible rfl)
            try simp only [Act.put]
            refine wpAnyH_done (by kernel_rfl) ?_ _
            go_simp
            clear hHeld
            go_wp2
            go_ret
            exact ⟨ret_boolB HF.out, q + 1, rfl⟩
        · have HE := Lib.hid (show ss = tt from list_eq_ofB (HN.out.trans HM.out.symm) fun j h0 h1 => HK.out j h0 h1 (by have := HN.out; omega))
          clear HK
          go_wp2
          go_ret
          exact ⟨ret_boolB (decide_eq_true HE.out).symm, q, rfl⟩
  · have HE := Lib.hid (decide_eq_false (show ss ≠ tt from fun e => hnm (by rw [← HN.out, ← HM.out, e]))).symm
    obtain ⟨_, A, c, rfl, _, _, _⟩ := ha
    obtain ⟨_, A', c', rfl, _, _, _⟩ := hb
    go_enter Try.func35, Try.ntmps35
    go_wp2
    go_ret
    exact ⟨ret_boolB HE.out, 0, rfl⟩

end Go.Proofs.Ytobjgdnmlibofaa
