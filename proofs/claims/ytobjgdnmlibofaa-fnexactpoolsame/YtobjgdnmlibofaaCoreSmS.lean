/-
  spec's CoreSame.
-/
import Derived.Test.YtobjgdnmlibofaaCoreSmI
set_option maxRecDepth 100000
namespace Go.Proofs.Ytobjgdnmlibofaa
open Go.ChangeShapes Go.WideShapes Go.ChangeAt Go.RowKit Go.Proofs.Palim


set_option maxHeartbeats 12000000 in
theorem specSame_is (vs vd vp vi us ud up ui : Value) (c d : CoreM) (w : World) (h : CoreR w vs vd vp vi c) (k : CoreR w us ud up ui d) (hs : CoreShort c) (ks : CoreShort d) :
    Calls Try.prog 12 #[cv c vs vd vp vi, cv d us ud up ui] w fun e w' => e = .returned (.bool (decide (c = d))) ∧ Below w.heap.size w w' := by
  have hnot : ∀ (x : Bool) (w : World), (Op.unary .not (.bool x)).run Try.prog w = .ok (.bool (!x)) w := fun _ _ => rfl
  obtain ⟨ok, HOK⟩ : ∃ ok, Hid (decide (c = d) = ok) := ⟨_, Lib.hid rfl⟩
  rw [HOK.out]
  obtain ⟨txg, sets, ddt, parts, dirty, safe, logn⟩ := c
  obtain ⟨txg', sets', ddt', parts', dirty', safe', logn'⟩ := d
  have HS := Lib.hid hs
  have HT := Lib.hid ks
  obtain ⟨A0, k0, A1, k1, A2, k2, A3, k3, e0, e1, e2, e3⟩ := h.forms
  obtain ⟨D0, l0, D1, l1, D2, l2, D3, l3, f0, f1, f2, f3⟩ := k.forms
  obtain ⟨hS, hD, hP, hI, gS, gD, gP, gI⟩ := h
  obtain ⟨qS, qD, qP, qI, jS, jD, jP, jI⟩ := k
  dsimp only at hS hD hP hI qS qD qP qI e0 e1 e2 e3 f0 f1 f2 f3
  clear hs ks
  obtain ⟨z0, N0⟩ : ∃ n, Hid (sets.length = n) := ⟨_, Lib.hid rfl⟩
  obtain ⟨z0', M0⟩ : ∃ n, Hid (sets'.length = n) := ⟨_, Lib.hid rfl⟩
  rw [N0.out] at e0 hS
  rw [M0.out] at f0 qS
  obtain ⟨z1, N1⟩ : ∃ n, Hid (ddt.length = n) := ⟨_, Lib.hid rfl⟩
  obtain ⟨z1', M1⟩ : ∃ n, Hid (ddt'.length = n) := ⟨_, Lib.hid rfl⟩
  rw [N1.out] at e1 hD
  rw [M1.out] at f1 qD
  obtain ⟨z2, N2⟩ : ∃ n, Hid (parts.length = n) := ⟨_, Lib.hid rfl⟩
  obtain ⟨z2', M2⟩ : ∃ n, Hid (parts'.length = n) := ⟨_, Lib.hid rfl⟩
  rw [N2.out] at e2 hP
  rw [M2.out] at f2 qP
  subst e0 e1 e2 e3 f0 f1 f2 f3
  obtain ⟨b1, b2, hsz, hB⟩ := box2 w #[.int .i64 txg, .slice A0 z0 k0, .slice A1 z1 k1, .slice A2 z2 k2, .bool dirty, .slice A3 safe.length k3, .int .i64 logn] #[.int .i64 txg', .slice D0 z0' l0, .slice D1 z1' l1, .slice D2 z2' l2, .bool dirty', .slice D3 safe'.length l3, .int .i64 logn'] 44 44
  have X1 := Lib.hid b1
  have X2 := Lib.hid b2
  have B0 := Lib.hid hB
  have RS := Lib.hid hS
  have RD := Lib.hid hD
  have RP := Lib.hid hP
  have RI := Lib.hid hI
  have GS := Lib.hid gS
  have GD := Lib.hid gD
  have GP := Lib.hid gP
  have GI := Lib.hid gI
  have QS := Lib.hid qS
  have QD := Lib.hid qD
  have QP := Lib.hid qP
  have QI := Lib.hid qI
  have JS := Lib.hid jS
  have JD := Lib.hid jD
  have JP := Lib.hid jP
  have JI := Lib.hid jI
  clear b1 b2 hB hsz hS hD hP hI qS qD qP qI gS gD gP gI jS jD jP jI
  go_enter Try.func12, Try.ntmps12
  go_upto_region 1 with fail
  generalize (w.alloc (.cells #[.int .i64 txg, .slice A0 z0 k0, .slice A1 z1 k1, .slice A2 z2 k2, .bool dirty, .slice A3 safe.length k3, .int .i64 logn] 44)).alloc (.cells #[.int .i64 txg', .slice D0 z0' l0, .slice D1 z1' l1, .slice D2 z2' l2, .bool dirty', .slice D3 safe'.length l3, .int .i64 logn'] 44) = W at X1 X2 B0 ⊢
  have n0 := X1.out.cell 0 rfl
  have m0 := X2.out.cell 0 rfl
  have n4 := X1.out.cell 4 rfl
  have m4 := X2.out.cell 4 rfl
  have n6 := X1.out.cell 6 rfl
  have m6 := X2.out.cell 6 rfl
  have n1 := X1.out.cell 1 rfl
  have m1 := X2.out.cell 1 rfl
  have n2 := X1.out.cell 2 rfl
  have m2 := X2.out.cell 2 rfl
  have n3 := X1.out.cell 3 rfl
  have m3 := X2.out.cell 3 rfl
  have n5 := X1.out.cell 5 rfl
  have m5 := X2.out.cell 5 rfl
  by_cases h_txg : txg = txg'
  case neg =>
    have e_txg : (txg == txg') = false := by simp [h_txg]
    have HX := Lib.hid h_txg
    go_wp2
    go_ret
    exact ⟨ret_boolB ((decide_eq_false (fun e => HX.out ((core_eq.1 e).1))).symm.trans HOK.out), B0.out⟩
  subst h_txg
  by_cases h_dirty : dirty = dirty'
  case neg =>
    have e_dirty : (dirty == dirty') = false := by simp [h_dirty]
    have HX := Lib.hid h_dirty
    go_wp2
    go_ret
    exact ⟨ret_boolB ((decide_eq_false (fun e => HX.out ((core_eq.1 e).2.2.2.2.1))).symm.trans HOK.out), B0.out⟩
  subst h_dirty
  by_cases h_logn : logn = logn'
  case neg =>
    have e_logn : (logn == logn') = false := by simp [h_logn]
    have HX := Lib.hid h_logn
    go_wp2
    go_ret
    exact ⟨ret_boolB ((decide_eq_false (fun e => HX.out ((core_eq.1 e).2.2.2.2.2.2))).symm.trans HOK.out), B0.out⟩
  subst h_logn
  by_cases h_l : z0 = z0'
  case neg =>
    have e_l : ((z0 : Int) == (z0' : Int)) = false := by simp; omega
    have e_m : ¬ ((z0 : Int) = (z0' : Int)) := by omega
    have HX := Lib.hid (show sets ≠ sets' from fun e => h_l (by rw [← N0.out, ← M0.out, e]))
    clear h_l
    go_wp2
    go_ret
    exact ⟨ret_boolB ((decide_eq_false (fun e => HX.out ((core_eq.1 e).2.1))).symm.trans HOK.out), B0.out⟩
  subst h_l
  by_cases h_l : z1 = z1'
  case neg =>
    have e_l : ((z1 : Int) == (z1' : Int)) = false := by simp; omega
    have e_m : ¬ ((z1 : Int) = (z1' : Int)) := by omega
    have HX := Lib.hid (show ddt ≠ ddt' from fun e => h_l (by rw [← N1.out, ← M1.out, e]))
    clear h_l
    go_wp2
    go_ret
    exact ⟨ret_boolB ((decide_eq_false (fun e => HX.out ((core_eq.1 e).2.2.1))).symm.trans HOK.out), B0.out⟩
  subst h_l
  by_cases h_l : z2 = z2'
  case neg =>
    have e_l : ((z2 : Int) == (z2' : Int)) = false := by simp; omega
    have e_m : ¬ ((z2 : Int) = (z2' : Int)) := by omega
    have HX := Lib.hid (show parts ≠ parts' from fun e => h_l (by rw [← N2.out, ← M2.out, e]))
    clear h_l
    go_wp2
    go_ret
    exact ⟨ret_boolB ((decide_eq_false (fun e => HX.out ((core_eq.1 e).2.2.2.1))).symm.trans HOK.out), B0.out⟩
  subst h_l
  go_wp2_with fail
  refine (l6Ints_any _ _ safe safe' _ (RI.out.below B0.out GI.out) (QI.out.below B0.out JI.out) HS.out.i HT.out.i).mono ?_
  rintro e wc1 ⟨rfl, q1, rfl⟩
  have hb := below_drewN (Below.refl W.heap.size W) q1
  have Y1 := Lib.hid (X1.out.below hb X1.out.lt)
  have Y2 := Lib.hid (X2.out.below hb X2.out.lt)
  have B1 := Lib.hid (B0.out.trans (hb.mono B0.out.size))
  clear hb X1 X2 B0 n0 m0 n4 m4 n6 m6 n1 m1 n2 m2 n3 m3 n5 m5
  generalize W.drewN q1 = wc1 at Y1 Y2 B1 ⊢
  have X1 := Y1
  have X2 := Y2
  have B0 := B1
  clear Y1 Y2 B1
  by_cases h_safe : safe = safe'
  case neg =>
    rw [decide_eq_false h_safe]
    have HX := Lib.hid h_safe
    clear h_safe
    go_wp2
    go_ret
    exact ⟨ret_boolB ((decide_eq_false (fun e => HX.out ((core_eq.1 e).2.2.2.2.2.1))).symm.trans HOK.out), B0.out⟩
  rw [decide_eq_true h_safe]
  have E_safe := Lib.hid h_safe
  clear h_safe
  have n1 := X1.out.cell 1 rfl
  have m1 := X2.out.cell 1 rfl
  have SA := Lib.hid (RS.out.below B0.out GS.out)
  have SB := Lib.hid (QS.out.below B0.out JS.out)
  go_wp2
  go_loopw [5] (fun i wr => ∃ (k q : Nat), k ≤ z0 ∧ i = .int .i64 k ∧ wr = wc1.drewN q ∧ Hid (∀ (j : Nat) (h0 : j < sets.length) (h1 : j < sets'.length), j < k → sets[j] = sets'[j])) (fun i _ => z0 - (intOf i).toNat)
  case atStart => exact ⟨0, 0, Nat.zero_le _, rfl, rfl, Lib.hid (fun j _ _ h => absurd h (Nat.not_lt_zero _))⟩
  case round =>
    obtain ⟨k, q0, hk, rfl, rfl, HK⟩ := hrel
    by_cases hlt : k < z0
    · have hl0 : k < sets.length := by rw [N0.out]; exact hlt
      have hl1 : k < sets'.length := by rw [M0.out]; exact hlt
      obtain ⟨b, off, c, ef, hnc, hcm, hcell⟩ := SA.out.form (by omega)
      obtain ⟨b', off', c', ef', hnc', hcm', hcell'⟩ := SB.out.form (by omega)
      obtain rfl : A0 = some ⟨b, off, none⟩ := by injection ef
      obtain rfl : D0 = some ⟨b', off', none⟩ := by injection ef'
      obtain rfl : k0 = c := by injection ef
      obtain rfl : l0 = c' := by injection ef'
      clear ef ef'
      have HC := Lib.hid hcell
      have HC' := Lib.hid hcell'
      unfold maxLen at hcm hcm'
      clear hcell hcell'
      have hrx := cset_read HC.out k hl0
      have hry := cset_read HC'.out k hl1
      have HK1 := Lib.hid (show sets[k] = sets'[k] → ∀ (j : Nat) (h0 : j < sets.length) (h1 : j < sets'.length), j < k + 1 → sets[j] = sets'[j] from fun hh j h0 h1 hj => by
        rcases Nat.lt_succ_iff_lt_or_eq.1 hj with h | rfl
        · exact HK.out j h0 h1 h
        · exact hh)
      have HNE := Lib.hid (show sets[k] ≠ sets'[k] → sets ≠ sets' from fun hh e => by subst e; exact hh rfl)
      have hk1 : (k : Int) < (z0 : Int) := by omega
      generalize sets[k] = x at hrx HK1 HNE
      generalize sets'[k] = y at hry HK1 HNE
      have hgd := guardCSet
      clear HK hl0 hl1
      by_cases hxy : x = y
      · have HK2 := Lib.hid (HK1.out hxy)
        subst hxy
        have hq := neqCSet_is x x true (decide_eq_true rfl)
        clear HK1 HNE
        go_wp2_with fail
        refine wp_region_held_drew (S := fun w' => (∀ j u, (cc x)[j]? = some u → w'.cell? ⟨b, off + k * 31 + j, none⟩ = some u) ∧ (∀ j u, (cc x)[j]? = some u → w'.cell? ⟨b', off' + k * 31 + j, none⟩ = some u) ∧ w'.cell? ⟨w.heap.size, 1, none⟩ = some (.slice (some ⟨b, off, none⟩) z0 k0) ∧ w'.cell? ⟨w.heap.size + 1, 1, none⟩ = some (.slice (some ⟨b', off', none⟩) z0 l0)) (by kernel_rfl) ⟨hrx, hry, n1, m1⟩ (fun hHeld => ?_)
        refine wpAnyH_take (i := 0) (v := ?_) rfl (by kernel_rfl) (by kernel_rfl) (by kernel_rfl) (fun _ _ _ h => h) (Or.inl ⟨by first | kernel_rfl | rfl, ?_⟩) (by assumption) ?_
        rotate_left
        · (intro w' hSw; (try (have hSx := hSw.2.2; obtain ⟨hS1, hS2⟩ := hSx)); clear hSw; go_simp; try with_reducible rfl)
        try simp only [Act.put]
        refine wpAnyH_take (i := 1) (v := ?_) rfl (by kernel_rfl) (by kernel_rfl) (by kernel_rfl) (fun _ _ _ h => h) (Or.inl ⟨by first | kernel_rfl | rfl, ?_⟩) (by assumption) ?_
        rotate_left
        · (intro w' hSw; (try (have hSx := hSw.2.2; obtain ⟨hS1, hS2⟩ := hSx)); clear hSw; go_simp; try with_reducible rfl)
        try simp only [Act.put]
        refine wpAnyH_take (i := 2) (v := ?_) rfl (by kernel_rfl) (by kernel_rfl) (by kernel_rfl) (fun _ _ _ h => h) (Or.inl ⟨by first | kernel_rfl | rfl, ?_⟩) (by assumption) ?_
        rotate_left
        · (intro w' hSw; (try (have hSx := hSw.2.2; obtain ⟨hS1, hS2⟩ := hSx)); clear hSw; go_simp; try with_reducible rfl)
        try simp only [Act.put]
        refine wpAnyH_take (i := 3) (v := ?_) rfl (by kernel_rfl) (by kernel_rfl) (by kernel_rfl) (fun _ _ _ h => h) (Or.inl ⟨by first | kernel_rfl | rfl, ?_⟩) (by assumption) ?_
        rotate_left
        · (intro w' hSw; (try (have hSx := hSw.2.2; obtain ⟨hS1, hS2⟩ := hSx)); clear hSw; go_simp; try with_reducible rfl)
        try simp only [Act.put]
        refine wpAnyH_take (i := 4) (v := .agg (cc x).toArray) rfl (by kernel_rfl) (by kernel_rfl) (by kernel_rfl) (fun _ _ _ h => h) (Or.inl ⟨by first | kernel_rfl | rfl, fun w' hSw => exec_load_cs (b := b) (off := off + k * 31) _ rfl aggSet (by first | kernel_rfl | rfl) (cc x) (cc_length x) hSw.1⟩) (by assumption) ?_
        try simp only [Act.put]
        refine wpAnyH_take (i := 5) (v := ?_) rfl (by kernel_rfl) (by kernel_rfl) (by kernel_rfl) (fun _ _ _ h => h) (Or.inl ⟨by first | kernel_rfl | rfl, ?_⟩) (by assumption) ?_
        rotate_left
        · (intro w' hSw; (try (have hSx := hSw.2.2; obtain ⟨hS1, hS2⟩ := hSx)); clear hSw; go_simp; try with_reducible rfl)
        try simp only [Act.put]
        refine wpAnyH_take (i := 6) (v := ?_) rfl (by kernel_rfl) (by kernel_rfl) (by kernel_rfl) (fun _ _ _ h => h) (Or.inl ⟨by first | kernel_rfl | rfl, ?_⟩) (by assumption) ?_
        rotate_left
        · (intro w' hSw; (try (have hSx := hSw.2.2; obtain ⟨hS1, hS2⟩ := hSx)); clear hSw; go_simp; try with_reducible rfl)
        try simp only [Act.put]
        refine wpAnyH_take (i := 7) (v := ?_) rfl (by kernel_rfl) (by kernel_rfl) (by kernel_rfl) (fun _ _ _ h => h) (Or.inl ⟨by first | kernel_rfl | rfl, ?_⟩) (by assumption) ?_
        rotate_left
        · (intro w' hSw; (try (have hSx := hSw.2.2; obtain ⟨hS1, hS2⟩ := hSx)); clear hSw; go_simp; try with_reducible rfl)
        try simp only [Act.put]
        refine wpAnyH_take (i := 8) (v := ?_) rfl (by kernel_rfl) (by kernel_rfl) (by kernel_rfl) (fun _ _ _ h => h) (Or.inl ⟨by first | kernel_rfl | rfl, ?_⟩) (by assumption) ?_
        rotate_left
        · (intro w' hSw; (try (have hSx := hSw.2.2; obtain ⟨hS1, hS2⟩ := hSx)); clear hSw; go_simp; try with_reducible rfl)
        try simp only [Act.put]
        refine wpAnyH_take (i := 9) (v := .agg (cc x).toArray) rfl (by kernel_rfl) (by kernel_rfl) (by kernel_rfl) (fun _ _ _ h => h) (Or.inl ⟨by first | kernel_rfl | rfl, fun w' hSw => exec_load_cs (b := b') (off := off' + k * 31) _ rfl aggSet (by first | kernel_rfl | rfl) (cc x) (cc_length x) hSw.2.1⟩) (by assumption) ?_
        try simp only [Act.put]
        refine wpAnyH_take (i := 10) (v := ?_) rfl (by kernel_rfl) (by kernel_rfl) (by kernel_rfl) (fun _ _ _ h => h) (Or.inl ⟨by first | kernel_rfl | rfl, ?_⟩) (by assumption) ?_
        rotate_left
        · (intro w' hSw; (try (have hSx := hSw.2.2; obtain ⟨hS1, hS2⟩ := hSx)); clear hSw; go_simp; try with_reducible rfl)
        try simp only [Act.put]
        refine wpAnyH_done (by kernel_rfl) ?_ _
        go_simp
        clear hHeld
        go_wp2
        go_roundw
        case rel => exact ⟨k + 1, q0 + 1, by omega, by go_num, rfl, HK2⟩
        case measure => simp [intOf]; omega
      · have HX := Lib.hid (HNE.out hxy)
        have hq := neqCSet_is x y false (decide_eq_false hxy)
        clear HK1 HNE hxy
        go_wp2_with fail
        refine wp_region_held_drew (S := fun w' => (∀ j u, (cc x)[j]? = some u → w'.cell? ⟨b, off + k * 31 + j, none⟩ = some u) ∧ (∀ j u, (cc y)[j]? = some u → w'.cell? ⟨b', off' + k * 31 + j, none⟩ = some u) ∧ w'.cell? ⟨w.heap.size, 1, none⟩ = some (.slice (some ⟨b, off, none⟩) z0 k0) ∧ w'.cell? ⟨w.heap.size + 1, 1, none⟩ = some (.slice (some ⟨b', off', none⟩) z0 l0)) (by kernel_rfl) ⟨hrx, hry, n1, m1⟩ (fun hHeld => ?_)
        refine wpAnyH_take (i := 0) (v := ?_) rfl (by kernel_rfl) (by kernel_rfl) (by kernel_rfl) (fun _ _ _ h => h) (Or.inl ⟨by first | kernel_rfl | rfl, ?_⟩) (by assumption) ?_
        rotate_left
        · (intro w' hSw; (try (have hSx := hSw.2.2; obtain ⟨hS1, hS2⟩ := hSx)); clear hSw; go_simp; try with_reducible rfl)
        try simp only [Act.put]
        refine wpAnyH_take (i := 1) (v := ?_) rfl (by kernel_rfl) (by kernel_rfl) (by kernel_rfl) (fun _ _ _ h => h) (Or.inl ⟨by first | kernel_rfl | rfl, ?_⟩) (by assumption) ?_
        rotate_left
        · (intro w' hSw; (try (have hSx := hSw.2.2; obtain ⟨hS1, hS2⟩ := hSx)); clear hSw; go_simp; try with_reducible rfl)
        try simp only [Act.put]
        refine wpAnyH_take (i := 2) (v := ?_) rfl (by kernel_rfl) (by kernel_rfl) (by kernel_rfl) (fun _ _ _ h => h) (Or.inl ⟨by first | kernel_rfl | rfl, ?_⟩) (by assumption) ?_
        rotate_left
        · (intro w' hSw; (try (have hSx := hSw.2.2; obtain ⟨hS1, hS2⟩ := hSx)); clear hSw; go_simp; try with_reducible rfl)
        try simp only [Act.put]
        refine wpAnyH_take (i := 3) (v := ?_) rfl (by kernel_rfl) (by kernel_rfl) (by kernel_rfl) (fun _ _ _ h => h) (Or.inl ⟨by first | kernel_rfl | rfl, ?_⟩) (by assumption) ?_
        rotate_left
        · (intro w' hSw; (try (have hSx := hSw.2.2; obtain ⟨hS1, hS2⟩ := hSx)); clear hSw; go_simp; try with_reducible rfl)
        try simp only [Act.put]
        refine wpAnyH_take (i := 4) (v := .agg (cc x).toArray) rfl (by kernel_rfl) (by kernel_rfl) (by kernel_rfl) (fun _ _ _ h => h) (Or.inl ⟨by first | kernel_rfl | rfl, fun w' hSw => exec_load_cs (b := b) (off := off + k * 31) _ rfl aggSet (by first | kernel_rfl | rfl) (cc x) (cc_length x) hSw.1⟩) (by assumption) ?_
        try simp only [Act.put]
        refine wpAnyH_take (i := 5) (v := ?_) rfl (by kernel_rfl) (by kernel_rfl) (by kernel_rfl) (fun _ _ _ h => h) (Or.inl ⟨by first | kernel_rfl | rfl, ?_⟩) (by assumption) ?_
        rotate_left
        · (intro w' hSw; (try (have hSx := hSw.2.2; obtain ⟨hS1, hS2⟩ := hSx)); clear hSw; go_simp; try with_reducible rfl)
        try simp only [Act.put]
        refine wpAnyH_take (i := 6) (v := ?_) rfl (by kernel_rfl) (by kernel_rfl) (by kernel_rfl) (fun _ _ _ h => h) (Or.inl ⟨by first | kernel_rfl | rfl, ?_⟩) (by assumption) ?_
        rotate_left
        · (intro w' hSw; (try (have hSx := hSw.2.2; obtain ⟨hS1, hS2⟩ := hSx)); clear hSw; go_simp; try with_reducible rfl)
        try simp only [Act.put]
        refine wpAnyH_take (i := 7) (v := ?_) rfl (by kernel_rfl) (by kernel_rfl) (by kernel_rfl) (fun _ _ _ h => h) (Or.inl ⟨by first | kernel_rfl | rfl, ?_⟩) (by assumption) ?_
        rotate_left
        · (intro w' hSw; (try (have hSx := hSw.2.2; obtain ⟨hS1, hS2⟩ := hSx)); clear hSw; go_simp; try with_reducible rfl)
        try simp only [Act.put]
        refine wpAnyH_take (i := 8) (v := ?_) rfl (by kernel_rfl) (by kernel_rfl) (by kernel_rfl) (fun _ _ _ h => h) (Or.inl ⟨by first | kernel_rfl | rfl, ?_⟩) (by assumption) ?_
        rotate_left
        · (intro w' hSw; (try (have hSx := hSw.2.2; obtain ⟨hS1, hS2⟩ := hSx)); clear hSw; go_simp; try with_reducible rfl)
        try simp only [Act.put]
        refine wpAnyH_take (i := 9) (v := .agg (cc y).toArray) rfl (by kernel_rfl) (by kernel_rfl) (by kernel_rfl) (fun _ _ _ h => h) (Or.inl ⟨by first | kernel_rfl | rfl, fun w' hSw => exec_load_cs (b := b') (off := off' + k * 31) _ rfl aggSet (by first | kernel_rfl | rfl) (cc y) (cc_length y) hSw.2.1⟩) (by assumption) ?_
        try simp only [Act.put]
        refine wpAnyH_take (i := 10) (v := ?_) rfl (by kernel_rfl) (by kernel_rfl) (by kernel_rfl) (fun _ _ _ h => h) (Or.inl ⟨by first | kernel_rfl | rfl, ?_⟩) (by assumption) ?_
        rotate_left
        · (intro w' hSw; (try (have hSx := hSw.2.2; obtain ⟨hS1, hS2⟩ := hSx)); clear hSw; go_simp; try with_reducible rfl)
        try simp only [Act.put]
        refine wpAnyH_done (by kernel_rfl) ?_ _
        go_simp
        clear hHeld
        go_wp2
        go_ret
        exact ⟨ret_boolB ((decide_eq_false (fun e => HX.out ((core_eq.1 e).2.1))).symm.trans HOK.out), below_drewN B0.out (q0 + 1)⟩
    have E_sets := Lib.hid (show sets = sets' from list_eq_ofB (N0.out.trans M0.out.symm) fun j h0 h1 => HK.out j h0 h1 (by have := N0.out; omega))
    have hkn : k = z0 := by omega
    subst hkn
    clear HK SA SB hlt hk
    have n2 := X1.out.cell 2 rfl
    have m2 := X2.out.cell 2 rfl
    have SA := Lib.hid (RD.out.below B0.out GD.out)
    have SB := Lib.hid (QD.out.below B0.out JD.out)
    go_wp2
    clear n1 m1
    go_loopw [6] (fun i wr => ∃ (k q : Nat), k ≤ z1 ∧ i = .int .i64 k ∧ wr = wc1.drewN q ∧ Hid (∀ (j : Nat) (h0 : j < ddt.length) (h1 : j < ddt'.length), j < k → ddt[j] = ddt'[j])) (fun i _ => z1 - (intOf i).toNat)
    case atStart => exact ⟨0, q0, Nat.zero_le _, rfl, rfl, Lib.hid (fun j _ _ h => absurd h (Nat.not_lt_zero _))⟩
    case round =>
      obtain ⟨k, q1, hk, rfl, rfl, HK⟩ := hrel
      by_cases hlt : k < z1
      · have hl0 : k < ddt.length := by rw [N1.out]; exact hlt
        have hl1 : k < ddt'.length := by rw [M1.out]; exact hlt
        obtain ⟨b, off, c, ef, hnc, hcm, hcell⟩ := SA.out.form (by omega)
        obtain ⟨b', off', c', ef', hnc', hcm', hcell'⟩ := SB.out.form (by omega)
        obtain rfl : A1 = some ⟨b, off, none⟩ := by injection ef
        obtain rfl : D1 = some ⟨b', off', none⟩ := by injection ef'
        obtain rfl : k1 = c := by injection ef
        obtain rfl : l1 = c' := by injection ef'
        clear ef ef'
        have HC := Lib.hid hcell
        have HC' := Lib.hid hcell'
        unfold maxLen at hcm hcm'
        clear hcell hcell'
        have hrx := ent_read HC.out k hl0
        have hry := ent_read HC'.out k hl1
        have HK1 := Lib.hid (show ddt[k] = ddt'[k] → ∀ (j : Nat) (h0 : j < ddt.length) (h1 : j < ddt'.length), j < k + 1 → ddt[j] = ddt'[j] from fun hh j h0 h1 hj => by
          rcases Nat.lt_succ_iff_lt_or_eq.1 hj with h | rfl
          · exact HK.out j h0 h1 h
          · exact hh)
        have HNE := Lib.hid (show ddt[k] ≠ ddt'[k] → ddt ≠ ddt' from fun hh e => by subst e; exact hh rfl)
        have hk1 : (k : Int) < (z1 : Int) := by omega
        generalize ddt[k] = x at hrx HK1 HNE
        generalize ddt'[k] = y at hry HK1 HNE
        obtain ⟨p1, p2, p3⟩ := hrx
        obtain ⟨r1, r2, r3⟩ := hry
        have hgd := guardEnt
        clear HK hl0 hl1
        by_cases hxy : x = y
        · have HK2 := Lib.hid (HK1.out hxy)
          subst hxy
          have hq := neqEnt_is x x true (decide_eq_true rfl)
          clear HK1 HNE
          go_wp2_with fail
          go_quiet (fail)
          go_wp2
          go_roundw
          case rel => exact ⟨k + 1, _, by omega, by go_num, rfl, HK2⟩
          case measure => simp [intOf]; omega
        · have HX := Lib.hid (HNE.out hxy)
          have hq := neqEnt_is x y false (decide_eq_false hxy)
          clear HK1 HNE hxy
          go_wp2_with fail
          go_quiet (fail)
          go_wp2
          go_ret
          exact ⟨ret_boolB ((decide_eq_false (fun e => HX.out ((core_eq.1 e).2.2.1))).symm.trans HOK.out), below_drewN (below_drewN B0.out q1) nq⟩
      have E_ddt := Lib.hid (show ddt = ddt' from list_eq_ofB (N1.out.trans M1.out.symm) fun j h0 h1 => HK.out j h0 h1 (by have := N1.out; omega))
      have hkn : k = z1 := by omega
      subst hkn
      clear HK SA SB hlt hk
      have n3 := X1.out.cell 3 rfl
      have m3 := X2.out.cell 3 rfl
      have SA := Lib.hid (RP.out.below B0.out GP.out)
      have SB := Lib.hid (QP.out.below B0.out JP.out)
      go_wp2
      clear n2 m2
      go_loopw [7] (fun i wr => ∃ (k q : Nat), k ≤ z2 ∧ i = .int .i64 k ∧ wr = wc1.drewN q ∧ Hid (∀ (j : Nat) (h0 : j < parts.length) (h1 : j < parts'.length), j < k → parts[j] = parts'[j])) (fun i _ => z2 - (intOf i).toNat)
      case atStart => exact ⟨0, q1, Nat.zero_le _, rfl, rfl, Lib.hid (fun j _ _ h => absurd h (Nat.not_lt_zero _))⟩
      case round =>
        obtain ⟨k, q2, hk, rfl, rfl, HK⟩ := hrel
        by_cases hlt : k < z2
        · have hl0 : k < parts.length := by rw [N2.out]; exact hlt
          have hl1 : k < parts'.length := by rw [M2.out]; exact hlt
          obtain ⟨b, off, c, ef, hnc, hcm, hcell⟩ := SA.out.form (by omega)
          obtain ⟨b', off', c', ef', hnc', hcm', hcell'⟩ := SB.out.form (by omega)
          obtain rfl : A2 = some ⟨b, off, none⟩ := by injection ef
          obtain rfl : D2 = some ⟨b', off', none⟩ := by injection ef'
          obtain rfl : k2 = c := by injection ef
          obtain rfl : l2 = c' := by injection ef'
          clear ef ef'
          have HC := Lib.hid hcell
          have HC' := Lib.hid hcell'
          unfold maxLen at hcm hcm'
          clear hcell hcell'
          have hrx := ptr_read HC.out k hl0
          have hry := ptr_read HC'.out k hl1
          have HK1 := Lib.hid (show parts[k] = parts'[k] → ∀ (j : Nat) (h0 : j < parts.length) (h1 : j < parts'.length), j < k + 1 → parts[j] = parts'[j] from fun hh j h0 h1 hj => by
            rcases Nat.lt_succ_iff_lt_or_eq.1 hj with h | rfl
            · exact HK.out j h0 h1 h
            · exact hh)
          have HNE := Lib.hid (show parts[k] ≠ parts'[k] → parts ≠ parts' from fun hh e => by subst e; exact hh rfl)
          have hk1 : (k : Int) < (z2 : Int) := by omega
          generalize parts[k] = x at hrx HK1 HNE
          generalize parts'[k] = y at hry HK1 HNE
          obtain ⟨p1, p2, p3⟩ := hrx
          obtain ⟨r1, r2, r3⟩ := hry
          have hgd := guardPtr
          clear HK hl0 hl1
          by_cases hxy : x = y
          · have HK2 := Lib.hid (HK1.out hxy)
            subst hxy
            have hq := neqPtr_is x x true (decide_eq_true rfl)
            clear HK1 HNE
            go_wp2_with fail
            go_quiet (fail)
            go_wp2
            go_roundw
            case rel => exact ⟨k + 1, _, by omega, by go_num, rfl, HK2⟩
            case measure => simp [intOf]; omega
          · have HX := Lib.hid (HNE.out hxy)
            have hq := neqPtr_is x y false (decide_eq_false hxy)
            clear HK1 HNE hxy
            go_wp2_with fail
            go_quiet (fail)
            go_wp2
            go_ret
            exact ⟨ret_boolB ((decide_eq_false (fun e => HX.out ((core_eq.1 e).2.2.2.1))).symm.trans HOK.out), below_drewN (below_drewN B0.out q2) nq⟩
        have E_parts := Lib.hid (show parts = parts' from list_eq_ofB (N2.out.trans M2.out.symm) fun j h0 h1 => HK.out j h0 h1 (by have := N2.out; omega))
        have hkn : k = z2 := by omega
        subst hkn
        clear HK SA SB hlt hk
        go_wp2
        go_ret
        exact ⟨ret_boolB (HOK.out.symm.trans (decide_eq_true (core_eq.2 ⟨rfl, E_sets.out, E_ddt.out, E_parts.out, rfl, E_safe.out, rfl⟩))).symm, below_drewN B0.out q2⟩
end Go.Proofs.Ytobjgdnmlibofaa
