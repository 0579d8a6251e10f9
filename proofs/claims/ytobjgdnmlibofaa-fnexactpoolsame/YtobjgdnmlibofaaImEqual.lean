/-
  slices.Equal at lists of strings and of late writes, and impl's DiskSame.
-/
import Derived.Test.YtobjgdnmlibofaaDiskSame2
import Derived.Test.YtobjgdnmlibofaaImHas
import Derived.Laws.StructEq
set_option maxRecDepth 100000
namespace Go.Proofs.Ytobjgdnmlibofaa
open Go.ChangeShapes Go.WideShapes Go.ChangeAt Go.RowKit Go.Proofs.Palim

theorem guardLate (op : BinOp) (a b : Operand) (xs ys : Array Value) (w : World) : (eqGuard op 63 a b (.agg xs) (.agg ys)).run Try.prog w = .ok () w := run_eqGuard_agg w op 63 a b xs ys (by kernel_rfl)
theorem neqLate (x y : LateM) (r : Bool) (h : decide (x = y) = r) (w : World) :
    (binOp .neq 63 (.agg #[.int .i64 x.side, .int .i64 x.at_, .string x.text]) (.agg #[.int .i64 y.side, .int .i64 y.at_, .string y.text])).run Try.prog w = .ok (.bool (!r)) w := by
  have u3 := Try.underlying3
  have u9 := Try.underlying9
  have a3 := Try.isAgg3
  have z3 := Try.sizeOf3
  have a9 := Try.isAgg9
  have z9 := Try.sizeOf9
  have hS : Try.prog.underlying 63 = some (.struct (Try.prog.fieldsOf 63)) := by kernel_rfl
  have hp : Try.prog.stoodInHeld 63 = false := by kernel_rfl
  subst h
  rw [run_neq_struct, show (10000 : Nat) = 9999 + 1 from rfl, run_equalIn_agg w 9999 63 _ _ hS hp]
  simp only [Program.fieldsOf, Try.underlying63]
  go_simp
  have e3 : x.text.toList = y.text.toList ↔ x.text = y.text := by
    constructor
    · intro e
      by_cases h : x.text = y.text
      · exact h
      · have := bytes_ne h; simp [e] at this
    · intro e; rw [e]
  by_cases h1 : x.side = y.side <;> by_cases h2 : x.at_ = y.at_ <;> by_cases h3 : x.text = y.text <;> simp [h1, h2, h3, e3, late_eq]

set_option maxHeartbeats 1000000 in
theorem equalStr_any (va vb : Value) (ss tt : List ByteArray) (w : World) (ha : Sl w 1 va ss.length (scs ss)) (hb : Sl w 1 vb tt.length (scs tt)) (hs : ss.length ≤ 1048576) (ht : tt.length ≤ 1048576) :
    Calls Try.prog 33 #[va, vb] w (Drawn (.bool (decide (ss = tt))) w) := by
  obtain ⟨n, HN⟩ : ∃ n, Hid (ss.length = n) := ⟨_, Lib.hid rfl⟩
  obtain ⟨m, HM⟩ : ∃ m, Hid (tt.length = m) := ⟨_, Lib.hid rfl⟩
  rw [HN.out] at ha hs
  rw [HM.out] at hb ht
  by_cases hnm : n = m
  · subst hnm
    by_cases hn : n = 0
    · subst hn
      have HE := Lib.hid (show ss = tt from by rw [List.length_eq_zero_iff.1 HN.out, List.length_eq_zero_iff.1 HM.out])
      obtain ⟨_, A, c, rfl, _, _, _⟩ := ha
      obtain ⟨_, A', c', rfl, _, _, _⟩ := hb
      go_enter Try.func33, Try.ntmps33
      go_wp2
      go_loopw [13] (fun i wr => i = .int .i64 0 ∧ wr = w) (fun _ _ => 0)
      case atStart => exact ⟨rfl, rfl⟩
      case round =>
        obtain ⟨rfl, rfl⟩ := hrel
        go_wp2
        go_ret
        exact ⟨ret_bool (decide_eq_true HE.out).symm, 0, rfl⟩
    · obtain ⟨b, off, c, rfl, hnc, hcm, hcell⟩ := ha.form (by omega)
      obtain ⟨b', off', c', rfl, hnc', hcm', hcell'⟩ := hb.form (by omega)
      have HC := Lib.hid hcell
      have HC' := Lib.hid hcell'
      unfold maxLen at hcm hcm'
      clear hcell hcell' ha hb
      go_enter Try.func33, Try.ntmps33
      go_wp2
      go_loopw [13] (fun i wr => ∃ (k q : Nat), k ≤ n ∧ i = .int .i64 k ∧ wr = w.drewN q ∧ Hid (∀ (j : Nat) (h0 : j < ss.length) (h1 : j < tt.length), j < k → ss[j] = tt[j])) (fun i _ => n - (intOf i).toNat)
      case atStart => exact ⟨0, 0, Nat.zero_le _, rfl, rfl, Lib.hid (fun j _ _ h => absurd h (Nat.not_lt_zero _))⟩
      case round =>
        obtain ⟨k, q, hk, rfl, rfl, HK⟩ := hrel
        by_cases hlt : k < n
        · have hl0 : k < ss.length := by rw [HN.out]; exact hlt
          have hl1 : k < tt.length := by rw [HM.out]; exact hlt
          have h1 : w.cell? ⟨b, off + k, none⟩ = some (.string ss[k]) := HC.out k _ (scs_at ss k hl0)
          have h2 : w.cell? ⟨b', off' + k, none⟩ = some (.string tt[k]) := HC'.out k _ (scs_at tt k hl1)
          have HK1 := Lib.hid (show ss[k] = tt[k] → ∀ (j : Nat) (h0 : j < ss.length) (h1 : j < tt.length), j < k + 1 → ss[j] = tt[j] from fun hh j h0 h1 hj => by
            rcases Nat.lt_succ_iff_lt_or_eq.1 hj with h | rfl
            · exact HK.out j h0 h1 h
            · exact hh)
          have HNE := Lib.hid (show ss[k] ≠ tt[k] → ss ≠ tt from fun hh e => by subst e; exact hh rfl)
          have hk1 : (k : Int) < (n : Int) := by omega
          generalize ss[k] = x at h1 HK1 HNE
          generalize tt[k] = y at h2 HK1 HNE
          clear HK hl0 hl1
          by_cases hxy : x = y
          · have HK2 := Lib.hid (HK1.out hxy)
            subst hxy
            clear HK1 HNE
            go_wp2_with fail
            go_quiet (fail)
            go_wp2
            go_roundw
            case rel => exact ⟨k + 1, _, by omega, by go_num, rfl, HK2⟩
            case measure => simp [intOf]; omega
          · have HF := Lib.hid (decide_eq_false (HNE.out hxy)).symm
            have hxy' := bytes_ne hxy
            clear HK1 HNE hxy
            go_wp2_with fail
            go_quiet (fail)
            go_wp2
            go_ret
            exact ⟨ret_bool HF.out, q + nq, by simp [World.drewN, Nat.add_assoc]⟩
        · have HE := Lib.hid (show ss = tt from list_eq_of (HN.out.trans HM.out.symm) fun j h0 h1 => HK.out j h0 h1 (by have := HN.out; omega))
          clear HK
          go_wp2
          go_ret
          exact ⟨ret_bool (decide_eq_true HE.out).symm, q, rfl⟩
  · have HE := Lib.hid (decide_eq_false (show ss ≠ tt from fun e => hnm (by rw [← HN.out, ← HM.out, e]))).symm
    obtain ⟨_, A, c, rfl, _, _, _⟩ := ha
    obtain ⟨_, A', c', rfl, _, _, _⟩ := hb
    go_enter Try.func33, Try.ntmps33
    go_wp2
    go_ret
    exact ⟨ret_bool HE.out, 0, rfl⟩
theorem equalStr_is (va vb : Value) (ss tt : List ByteArray) (w : World) (ha : Sl w 1 va ss.length (scs ss)) (hb : Sl w 1 vb tt.length (scs tt)) (hs : ss.length ≤ 1048576) (ht : tt.length ≤ 1048576) (r : Bool) (hr : decide (ss = tt) = r) :
    Calls Try.prog 33 #[va, vb] w (Drawn (.bool r) w) := hr ▸ equalStr_any va vb ss tt w ha hb hs ht

set_option maxHeartbeats 1000000 in
theorem equalLate_any (va vb : Value) (ss tt : List LateM) (w : World) (ha : Sl w 3 va ss.length (lcs ss)) (hb : Sl w 3 vb tt.length (lcs tt)) (hs : ss.length ≤ 1048576) (ht : tt.length ≤ 1048576) :
    Calls Try.prog 34 #[va, vb] w (Drawn (.bool (decide (ss = tt))) w) := by
  obtain ⟨n, HN⟩ : ∃ n, Hid (ss.length = n) := ⟨_, Lib.hid rfl⟩
  obtain ⟨m, HM⟩ : ∃ m, Hid (tt.length = m) := ⟨_, Lib.hid rfl⟩
  rw [HN.out] at ha hs
  rw [HM.out] at hb ht
  by_cases hnm : n = m
  · subst hnm
    by_cases hn : n = 0
    · subst hn
      have HE := Lib.hid (show ss = tt from by rw [List.length_eq_zero_iff.1 HN.out, List.length_eq_zero_iff.1 HM.out])
      obtain ⟨_, A, c, rfl, _, _, _⟩ := ha
      obtain ⟨_, A', c', rfl, _, _, _⟩ := hb
      go_enter Try.func34, Try.ntmps34
      go_wp2
      go_loopw [13] (fun i wr => i = .int .i64 0 ∧ wr = w) (fun _ _ => 0)
      case atStart => exact ⟨rfl, rfl⟩
      case round =>
        obtain ⟨rfl, rfl⟩ := hrel
        go_wp2
        go_ret
        exact ⟨ret_bool (decide_eq_true HE.out).symm, 0, rfl⟩
    · obtain ⟨b, off, c, rfl, hnc, hcm, hcell⟩ := ha.form (by omega)
      obtain ⟨b', off', c', rfl, hnc', hcm', hcell'⟩ := hb.form (by omega)
      have HC := Lib.hid hcell
      have HC' := Lib.hid hcell'
      unfold maxLen at hcm hcm'
      clear hcell hcell' ha hb
      go_enter Try.func34, Try.ntmps34
      go_wp2
      go_loopw [13] (fun i wr => ∃ (k q : Nat), k ≤ n ∧ i = .int .i64 k ∧ wr = w.drewN q ∧ Hid (∀ (j : Nat) (h0 : j < ss.length) (h1 : j < tt.length), j < k → ss[j] = tt[j])) (fun i _ => n - (intOf i).toNat)
      case atStart => exact ⟨0, 0, Nat.zero_le _, rfl, rfl, Lib.hid (fun j _ _ h => absurd h (Nat.not_lt_zero _))⟩
      case round =>
        obtain ⟨k, q, hk, rfl, rfl, HK⟩ := hrel
        by_cases hlt : k < n
        · have hl0 : k < ss.length := by rw [HN.out]; exact hlt
          have hl1 : k < tt.length := by rw [HM.out]; exact hlt
          have hrx := late_read HC.out k hl0
          have hry := late_read HC'.out k hl1
          have HK1 := Lib.hid (show ss[k] = tt[k] → ∀ (j : Nat) (h0 : j < ss.length) (h1 : j < tt.length), j < k + 1 → ss[j] = tt[j] from fun hh j h0 h1 hj => by
            rcases Nat.lt_succ_iff_lt_or_eq.1 hj with h | rfl
            · exact HK.out j h0 h1 h
            · exact hh)
          have HNE := Lib.hid (show ss[k] ≠ tt[k] → ss ≠ tt from fun hh e => by subst e; exact hh rfl)
          have hk1 : (k : Int) < (n : Int) := by omega
          generalize ss[k] = x at hrx HK1 HNE
          generalize tt[k] = y at hry HK1 HNE
          obtain ⟨p1, p2, p3⟩ := hrx
          obtain ⟨r1, r2, r3⟩ := hry
          have hgd := guardLate
          clear HK hl0 hl1
          by_cases hxy : x = y
          · have HK2 := Lib.hid (HK1.out hxy)
            subst hxy
            have hq := neqLate x x true (decide_eq_true rfl)
            clear HK1 HNE
            go_wp2_with fail
            go_quiet (fail)
            go_wp2
            go_roundw
            case rel => exact ⟨k + 1, _, by omega, by go_num, rfl, HK2⟩
            case measure => simp [intOf]; omega
          · have HF := Lib.hid (decide_eq_false (HNE.out hxy)).symm
            have hq := neqLate x y false (decide_eq_false hxy)
            clear HK1 HNE hxy
            go_wp2_with fail
            go_quiet (fail)
            go_wp2
            go_ret
            exact ⟨ret_bool HF.out, q + nq, by simp [World.drewN, Nat.add_assoc]⟩
        · have HE := Lib.hid (show ss = tt from list_eq_of (HN.out.trans HM.out.symm) fun j h0 h1 => HK.out j h0 h1 (by have := HN.out; omega))
          clear HK
          go_wp2
          go_ret
          exact ⟨ret_bool (decide_eq_true HE.out).symm, q, rfl⟩
  · have HE := Lib.hid (decide_eq_false (show ss ≠ tt from fun e => hnm (by rw [← HN.out, ← HM.out, e]))).symm
    obtain ⟨_, A, c, rfl, _, _, _⟩ := ha
    obtain ⟨_, A', c', rfl, _, _, _⟩ := hb
    go_enter Try.func34, Try.ntmps34
    go_wp2
    go_ret
    exact ⟨ret_bool HE.out, 0, rfl⟩
end Go.Proofs.Ytobjgdnmlibofaa
