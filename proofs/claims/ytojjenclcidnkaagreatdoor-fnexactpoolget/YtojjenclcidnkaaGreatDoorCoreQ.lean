/-
  slices.Equal at the core's lists, and spec's l6Ints.
-/
import Derived.Test.YtojjenclcidnkaaGreatDoorEqF
import Derived.Test.YtojjenclcidnkaaGreatDoorData
set_option maxRecDepth 100000
namespace Go.Proofs.YtojjenclcidnkaaGreatDoor
open Go.ChangeShapes Go.WideShapes Go.ChangeAt Go.RowKit Go.Proofs.Palim

theorem guardPtr (op : BinOp) (a b : Operand) (xs ys : Array Value) (w : World) : (eqGuard op 67 a b (.agg xs) (.agg ys)).run Tryz.prog w = .ok () w := run_eqGuard_agg w op 67 a b xs ys (by kernel_rfl)
theorem guardEnt (op : BinOp) (a b : Operand) (xs ys : Array Value) (w : World) : (eqGuard op 135 a b (.agg xs) (.agg ys)).run Tryz.prog w = .ok () w := run_eqGuard_agg w op 135 a b xs ys (by kernel_rfl)
theorem guardCSet (op : BinOp) (a b : Operand) (xs ys : Array Value) (w : World) : (eqGuard op 70 a b (.agg xs) (.agg ys)).run Tryz.prog w = .ok () w := run_eqGuard_agg w op 70 a b xs ys (by kernel_rfl)
theorem neqPtr_is (x y : PtrM) (r : Bool) (h : decide (x = y) = r) (w : World) : (binOp .neq 67 (.agg #[.int .i64 x.at_, .int .i64 x.sum, .int .i64 x.birth]) (.agg #[.int .i64 y.at_, .int .i64 y.sum, .int .i64 y.birth])).run Tryz.prog w = .ok (.bool (!r)) w := h ▸ neqPtr x y w
theorem neqEnt_is (x y : EntM) (r : Bool) (h : decide (x = y) = r) (w : World) : (binOp .neq 135 (.agg #[.int .i64 x.sum, .int .i64 x.at_, .int .i64 x.count]) (.agg #[.int .i64 y.sum, .int .i64 y.at_, .int .i64 y.count])).run Tryz.prog w = .ok (.bool (!r)) w := h ▸ neqEnt x y w
theorem neqCSet_is (x y : CSetM) (r : Bool) (h : decide (x = y) = r) (w : World) : (binOp .neq 70 (.agg (cc x).toArray) (.agg (cc y).toArray)).run Tryz.prog w = .ok (.bool (!r)) w := h ▸ neqCSet x y w

set_option maxHeartbeats 2000000 in
theorem equalEn_any (va vb : Value) (ss tt : List EntM) (w : World) (ha : Sl w 3 va ss.length (ecs ss)) (hb : Sl w 3 vb tt.length (ecs tt)) (hs : ss.length ≤ 1048576) (ht : tt.length ≤ 1048576) :
    Calls Tryz.prog 153 #[va, vb] w (Drawn (.bool (decide (ss = tt))) w) := by
  obtain ⟨n, HN⟩ : ∃ n, Hid (ss.length = n) := ⟨_, Lib.hid rfl⟩
  obtain ⟨m, HM⟩ : ∃ m, Hid (tt.length = m) := ⟨_, Lib.hid rfl⟩
  rw [HN.out] at ha hs
  rw [HM.out] at hb ht
  by_cases hnm : n = m
  · subst hnm
    by_cases hn : n = 0
    · subst hn
      have HE := Lib.hid (show ss = tt from by rw [List.length_eq_zero_iff.1 HN.out, List.length_eq_zero_iff.1 HM.out])
      obtain ⟨_, A, c, rfl, _, _, _⟩ := ha
      obtain ⟨_, A', c', rfl, _, _, _⟩ := hb
      go_enter Tryz.func153, Tryz.ntmps153
      go_wp2
      go_loopw [13] (fun i wr => i = .int .i64 0 ∧ wr = w) (fun _ _ => 0)
      case atStart => exact ⟨rfl, rfl⟩
      case round =>
        obtain ⟨rfl, rfl⟩ := hrel
        go_wp2
        go_ret
        exact ⟨ret_boolB (decide_eq_true HE.out).symm, 0, rfl⟩
    · obtain ⟨b, off, c, rfl, hnc, hcm, hcell⟩ := ha.form (by omega)
      obtain ⟨b', off', c', rfl, hnc', hcm', hcell'⟩ := hb.form (by omega)
      have HC := Lib.hid hcell
      have HC' := Lib.hid hcell'
      unfold maxLen at hcm hcm'
      clear hcell hcell' ha hb
      go_enter Tryz.func153, Tryz.ntmps153
      go_wp2
      go_loopw [13] (fun i wr => ∃ (k q : Nat), k ≤ n ∧ i = .int .i64 k ∧ wr = w.drewN q ∧ Hid (∀ (j : Nat) (h0 : j < ss.length) (h1 : j < tt.length), j < k → ss[j] = tt[j])) (fun i _ => n - (intOf i).toNat)
      case atStart => exact ⟨0, 0, Nat.zero_le _, rfl, rfl, Lib.hid (fun j _ _ h => absurd h (Nat.not_lt_zero _))⟩
      case round =>
        obtain ⟨k, q, hk, rfl, rfl, HK⟩ := hrel
        by_cases hlt : k < n
        · have hl0 : k < ss.length := by rw [HN.out]; exact hlt
          have hl1 : k < tt.length := by rw [HM.out]; exact hlt
          have hrx := ent_read HC.out k hl0
          have hry := ent_read HC'.out k hl1
          have HK1 := Lib.hid (show ss[k] = tt[k] → ∀ (j : Nat) (h0 : j < ss.length) (h1 : j < tt.length), j < k + 1 → ss[j] = tt[j] from fun hh j h0 h1 hj => by
            rcases Nat.lt_succ_iff_lt_or_eq.1 hj with h | rfl
            · exact HK.out j h0 h1 h
            · exact hh)
          have HNE := Lib.hid (show ss[k] ≠ tt[k] → ss ≠ tt from fun hh e => by subst e; exact hh rfl)
          have hk1 : (k : Int) < (n : Int) := by omega
          generalize ss[k] = x at hrx HK1 HNE
          generalize tt[k] = y at hry HK1 HNE
          obtain ⟨p1, p2, p3⟩ := hrx
          obtain ⟨r1, r2, r3⟩ := hry
          have hgd := guardEnt
          clear HK hl0 hl1
          by_cases hxy : x = y
          · have HK2 := Lib.hid (HK1.out hxy)
            subst hxy
            have hq := neqEnt_is x x true (decide_eq_true rfl)
            clear HK1 HNE
            go_wp2_with fail
            go_quiet (fail)
            go_wp2
            go_roundw
            case rel => exact ⟨k + 1, _, by omega, by go_num, rfl, HK2⟩
            case measure => simp [intOf]; omega
          · have HF := Lib.hid (decide_eq_false (HNE.out hxy)).symm
            have hq := neqEnt_is x y false (decide_eq_false hxy)
            clear hxy
            clear HK1 HNE
            go_wp2_with fail
            go_quiet (fail)
            go_wp2
            go_ret
            exact ⟨ret_boolB HF.out, q + nq, by simp [World.drewN, Nat.add_assoc]⟩
        · have HE := Lib.hid (show ss = tt from list_eq_ofB (HN.out.trans HM.out.symm) fun j h0 h1 => HK.out j h0 h1 (by have := HN.out; omega))
          clear HK
          go_wp2
          go_ret
          exact ⟨ret_boolB (decide_eq_true HE.out).symm, q, rfl⟩
  · have HE := Lib.hid (decide_eq_false (show ss ≠ tt from fun e => hnm (by rw [← HN.out, ← HM.out, e]))).symm
    obtain ⟨_, A, c, rfl, _, _, _⟩ := ha
    obtain ⟨_, A', c', rfl, _, _, _⟩ := hb
    go_enter Tryz.func153, Tryz.ntmps153
    go_wp2
    go_ret
    exact ⟨ret_boolB HE.out, 0, rfl⟩

end Go.Proofs.YtojjenclcidnkaaGreatDoor
