/-
  The document's counting of pointers: l6Refs, l6Counts, l6Sums.
-/
import Derived.Test.YtobjgdnmlibofaaGreatCoreD
import Derived.Test.YtobjgdnmlibofaaGreatDdtCnt
import Derived.Test.YtobjgdnmlibofaaGreatBig
set_option maxRecDepth 100000
namespace Go.Proofs.YtobjgdnmlibofaaGreat
open Go.ChangeShapes Go.WideShapes Go.ChangeAt Go.RowKit Go.Proofs.Palim

theorem ptsM_snoc {ls : List CSetM} {k : Nat} (h : k < ls.length) : ptsM (ls.take (k + 1)) = ptsM (ls.take k) ++ ls[k].map := by
  unfold ptsM
  rw [List.take_succ_eq_append_getElem h, List.flatMap_append]
  simp
theorem ptsM_len : ∀ ls : List CSetM, (ptsM ls).length = ls.length * 8
  | [] => rfl
  | x :: ls => by
    have := ptsM_len ls
    unfold ptsM at this ⊢
    rw [List.flatMap_cons, List.length_append, x.h8, this, List.length_cons]
    omega
theorem take_snoc {α : Type} {l : List α} {j : Nat} (h : j < l.length) (P : List α) : P ++ l.take (j + 1) = (P ++ l.take j) ++ [l[j]] := by rw [List.take_succ_eq_append_getElem h, List.append_assoc]
theorem cnt_le (P : List PtrM) (a : Int) : cntM P a ≤ P.length := List.countP_le_length
theorem live_le (P : List PtrM) : liveM P ≤ P.length := List.countP_le_length
theorem cnt_snoc (P : List PtrM) (p : PtrM) (a : Int) : cntM (P ++ [p]) a = cntM P a + if p.at_ = a then 1 else 0 := by rw [cnt_append, cnt_cons]; rfl
theorem live_snoc (P : List PtrM) (p : PtrM) : liveM (P ++ [p]) = liveM P + if 0 < p.at_ then 1 else 0 := by
  unfold liveM
  rw [List.countP_append, List.countP_cons]
  by_cases h : 0 < p.at_ <;> simp [h]
theorem CoreR.drew' {w : World} {vs vd vp vi : Value} {c : CoreM} (h : CoreR w vs vd vp vi c) : CoreR w.drew vs vd vp vi c := ⟨h.s, h.d, h.p, h.i, h.ls, h.ld, h.lp, h.li⟩
theorem aggCoreD : Agg Tryz.prog 44 7 := ⟨Tryz.isAgg44, Tryz.sizeOf44⟩

set_option maxHeartbeats 4000000 in
theorem refs_any (vs vd vp vi : Value) (c : CoreM) (a : Int) (w : World) (h : CoreR w vs vd vp vi c) (hs : CoreShort c) (ha : 0 < a) :
    Calls Tryz.prog 103 #[cv c vs vd vp vi, .int .i64 a] w fun e w' => e = .returned (.int .i64 (cntM (ptsM c.sets) a : Nat)) ∧ Below w.heap.size w w' := by
  obtain ⟨txg, sets, ddt, parts, dirty, safe, logn⟩ := c
  obtain ⟨A0, k0, A1, k1, A2, k2, A3, k3, e0, e1, e2, e3⟩ := h.forms
  dsimp only at e0 e1 e2 e3
  subst e0 e1 e2 e3
  have HRR := Lib.hid h
  have HS := Lib.hid h.s
  have HLS := Lib.hid h.ls
  have HD := Lib.hid h.d
  have HLD := Lib.hid h.ld
  obtain ⟨n, HL⟩ : ∃ n, Hid (sets.length = n) := ⟨_, Lib.hid rfl⟩
  obtain ⟨nd, HLDT⟩ : ∃ nd, Hid (ddt.length = nd) := ⟨_, Lib.hid rfl⟩
  have hln : n ≤ 1048576 := HL.out ▸ hs.s
  have hck := h.s.le
  clear h hs
  dsimp only at HS HLS HD HLD hck
  rw [HL.out] at HS HLS hck
  rw [HLDT.out] at HD HLD
  unfold maxLen at hck
  have XC := Lib.hid (show Box _ w.heap.size [.int .i64 txg, .slice A0 n k0, .slice A1 nd k1, .slice A2 parts.length k2, .bool dirty, .slice A3 safe.length k3, .int .i64 logn] from box_new w #[.int .i64 txg, .slice A0 n k0, .slice A1 nd k1, .slice A2 parts.length k2, .bool dirty, .slice A3 safe.length k3, .int .i64 logn] 44)
  have B0 := Lib.hid (Below.new1 (w := w) (.cells #[.int .i64 txg, .slice A0 n k0, .slice A1 nd k1, .slice A2 parts.length k2, .bool dirty, .slice A3 safe.length k3, .int .i64 logn] 44))
  obtain ⟨R, HR⟩ : ∃ R : Nat, Hid (cntM (ptsM sets) a = R) := ⟨_, Lib.hid rfl⟩
  simp only
  rw [HR.out]
  have had : decide (a > 0) = true := decide_eq_true ha
  go_enter Tryz.func103, Tryz.ntmps103
  go_upto_region 1 with fail
  rw [HL.out, HLDT.out]
  obtain ⟨W0, HWE⟩ : ∃ W0, w.alloc (.cells #[.int .i64 txg, .slice A0 n k0, .slice A1 nd k1, .slice A2 parts.length k2, .bool dirty, .slice A3 safe.length k3, .int .i64 logn] 44) = W0 := ⟨_, rfl⟩
  rw [HWE] at XC B0 ⊢
  clear HWE
  have n1 := XC.out.cell 1 rfl
  go_wp2
  go_loop [5, 6, 7] (fun r i _ => ∃ (k m : Nat), k ≤ n ∧ i = .int .i64 k ∧ r = .int .i64 m ∧ m ≤ 8 * k ∧ Hid (cntM (ptsM (sets.take k)) a = m)) (fun _ i _ => n - (RowKit.intOf i).toNat)
  case atStart => exact ⟨0, 0, Nat.zero_le _, rfl, rfl, Nat.le_refl _, Lib.hid rfl⟩
  case round =>
    obtain ⟨k, m, hk, rfl, rfl, hm8, HM⟩ := hrel
    by_cases hlt : k < n
    case pos =>
      have hl0 : k < sets.length := by rw [HL.out]; exact hlt
      obtain ⟨b, off, c', hvv, _, _, hcell⟩ := (HS.out.below B0.out HLS.out).form (by omega)
      injection hvv with e1 e2 e3
      subst e1 e3
      clear e2
      have hk1 : (k : Int) < (n : Int) := by omega
      have HC := Lib.hid hcell
      clear hcell
      go_wp2
      go_loop [5, 7] (fun r i => ∃ (j m : Nat), j ≤ 8 ∧ i = .int .i64 j ∧ r = .int .i64 m ∧ m ≤ 8 * k + j ∧ Hid (cntM (ptsM (sets.take k) ++ sets[k].map.take j) a = m)) (fun _ i => 8 - (RowKit.intOf i).toNat)
      case atStart => exact ⟨0, m, Nat.zero_le _, rfl, rfl, by omega, Lib.hid (by rw [List.take_zero, List.append_nil]; exact HM.out)⟩
      case round =>
        clear HM
        obtain ⟨j, m, hj, rfl, rfl, hmj, HM⟩ := hrel
        by_cases hj8 : j < 8
        case pos =>
          have hjl : j < sets[k].map.length := by rw [sets[k].h8]; exact hj8
          obtain ⟨g0, g1, g2⟩ := pt_read HC.out k hl0 j hjl
          have hj1 : (j : Int) < 8 := by omega
          have HT := Lib.hid (show cntM (ptsM (sets.take k) ++ sets[k].map.take (j + 1)) a = m + if sets[k].map[j].at_ = a then 1 else 0 from by rw [take_snoc hjl, cnt_snoc, HM.out])
          generalize sets[k].map[j].at_ = y at g0 HT
          clear g1 g2 hjl HM
          by_cases hy : y = a
          case pos =>
            have HT2 := Lib.hid (show cntM (ptsM (sets.take k) ++ sets[k].map.take (j + 1)) a = m + 1 from by rw [HT.out, if_pos hy])
            have hyq : (y == a) = true := by simpa using hy
            have hyd : decide (y = a) = true := by simpa using hy
            have hwr : IntKind.wrap .i64 ((m : Int) + 1) = ((m + 1 : Nat) : Int) := by rw [IntWalk.i64_in _ (by omega)]; omega
            clear HT hy
            go_wp2
            go_round
            case rel => exact ⟨j + 1, m + 1, by omega, by go_num, by first | rfl | go_num, by omega, HT2⟩
            case measure => simp [RowKit.intOf]; omega
          case neg =>
            have HT2 := Lib.hid (show cntM (ptsM (sets.take k) ++ sets[k].map.take (j + 1)) a = m from by rw [HT.out, if_neg hy]; rfl)
            have hyq : (y == a) = false := by simpa using hy
            have hyd : decide (y = a) = false := by simpa using hy
            clear HT hy
            go_wp2
            go_round
            case rel => exact ⟨j + 1, m, by omega, by go_num, rfl, by omega, HT2⟩
            case measure => simp [RowKit.intOf]; omega
        case neg =>
          have HT2 := Lib.hid (show cntM (ptsM (sets.take (k + 1))) a = m from by
            have e : sets[k].map.take j = sets[k].map := List.take_of_length_le (by rw [sets[k].h8]; omega)
            rw [ptsM_snoc hl0, ← HM.out, e])
          have hjj : ¬ (j : Int) < 8 := by omega
          clear HM
          go_wp2
          go_round
          case rel => exact ⟨k + 1, m, by omega, by go_num, rfl, by omega, HT2⟩
          case measure => simp [RowKit.intOf]; omega
    case neg =>
      have HF := Lib.hid (show m = R from by rw [← HR.out, ← HM.out, List.take_of_length_le (by rw [HL.out]; omega)])
      go_wp2
      go_ret
      have hF := HF.out
      subst hF
      first
        | exact ⟨rfl, B0.out⟩
        | exact ⟨by rw [← HR.out], B0.out⟩
        | exact ⟨by simp only [HR.out], B0.out⟩
theorem refs_is (vs vd vp vi : Value) (c : CoreM) (a : Int) (r : Nat) (w : World) (h : CoreR w vs vd vp vi c) (hs : CoreShort c) (ha : 0 < a) (hr : cntM (ptsM c.sets) a = r) :
    Calls Tryz.prog 103 #[cv c vs vd vp vi, .int .i64 a] w fun e w' => e = .returned (.int .i64 r) ∧ Below w.heap.size w w' := hr ▸ refs_any vs vd vp vi c a w h hs ha

theorem allM_snoc (ls : List EntM) (x : EntM) : allM (ls ++ [x]) = allM ls + x.count := by
  unfold allM
  rw [List.map_append, List.sum_append]
  simp
theorem all_bound : ∀ ls : List EntM, (∀ e ∈ ls, EntOkM e) → 0 ≤ allM ls ∧ allM ls ≤ 1000 * ls.length
  | [], _ => by simp [allM]
  | x :: ls, h => by
    have ih := all_bound ls (fun e he => h e (List.mem_cons_of_mem _ he))
    obtain ⟨_, _, _, _, o5, o6⟩ := h x (by simp)
    have e : allM (x :: ls) = x.count + allM ls := by simp [allM]
    rw [e, List.length_cons]
    omega

set_option maxHeartbeats 8000000 in
theorem specCounts_any (vs vd vp vi : Value) (c : CoreM) (w : World) (h : CoreR w vs vd vp vi c) (hs : CoreShort c) (hdok : DdtOkM c.ddt) :
    Calls Tryz.prog 58 #[cv c vs vd vp vi] w fun e w' => e = .returned (.bool (decide (CountsM c))) ∧ Below w.heap.size w w' := by
  obtain ⟨ok, HOK⟩ : ∃ ok, Hid (decide (CountsM c) = ok) := ⟨_, Lib.hid rfl⟩
  rw [HOK.out]
  have HSH := Lib.hid hs
  have HDK := Lib.hid hdok
  obtain ⟨txg, sets, ddt, parts, dirty, safe, logn⟩ := c
  obtain ⟨A0, k0, A1, k1, A2, k2, A3, k3, e0, e1, e2, e3⟩ := h.forms
  dsimp only at e0 e1 e2 e3
  subst e0 e1 e2 e3
  have HRR := Lib.hid h
  have HS := Lib.hid h.s
  have HLS := Lib.hid h.ls
  have HD := Lib.hid h.d
  have HLD := Lib.hid h.ld
  obtain ⟨n, HL⟩ : ∃ n, Hid (sets.length = n) := ⟨_, Lib.hid rfl⟩
  obtain ⟨nd, HLDT⟩ : ∃ nd, Hid (ddt.length = nd) := ⟨_, Lib.hid rfl⟩
  have hln : n ≤ 1048576 := HL.out ▸ hs.s
  have hck := h.s.le
  clear h hs
  dsimp only at HS HLS HD HLD hck
  rw [HL.out] at HS HLS hck
  rw [HLDT.out] at HD HLD
  unfold maxLen at hck
  have XC := Lib.hid (show Box _ w.heap.size [.int .i64 txg, .slice A0 n k0, .slice A1 nd k1, .slice A2 parts.length k2, .bool dirty, .slice A3 safe.length k3, .int .i64 logn] from box_new w #[.int .i64 txg, .slice A0 n k0, .slice A1 nd k1, .slice A2 parts.length k2, .bool dirty, .slice A3 safe.length k3, .int .i64 logn] 44)
  have B0 := Lib.hid (Below.new1 (w := w) (.cells #[.int .i64 txg, .slice A0 n k0, .slice A1 nd k1, .slice A2 parts.length k2, .bool dirty, .slice A3 safe.length k3, .int .i64 logn] 44))
  have hnd48 : nd ≤ 48 := HLDT.out ▸ hdok.1
  have HKO := Lib.hid (show ∀ e ∈ ddt, EntOkM e from fun e he => by
    obtain ⟨i, hi, rfl⟩ := List.mem_iff_getElem.1 he
    exact (hdok.2 i hi hi).1)
  clear hdok
  have HC2 := Lib.hid (show CoreR w (.slice A0 n k0) (.slice A1 nd k1) (.slice A2 parts.length k2) (.slice A3 safe.length k3) ⟨txg, sets, ddt, parts, dirty, safe, logn⟩ from by
    have := HRR.out
    simp only [HL.out, HLDT.out] at this
    exact this)
  go_enter Tryz.func58, Tryz.ntmps58
  go_upto_region 1 with fail
  rw [HL.out, HLDT.out]
  obtain ⟨W0, HWE⟩ : ∃ W0, w.alloc (.cells #[.int .i64 txg, .slice A0 n k0, .slice A1 nd k1, .slice A2 parts.length k2, .bool dirty, .slice A3 safe.length k3, .int .i64 logn] 44) = W0 := ⟨_, rfl⟩
  rw [HWE] at XC B0 ⊢
  clear HWE
  have n1 := XC.out.cell 1 rfl
  have n2 := XC.out.cell 2 rfl
  have HD0 := Lib.hid (HD.out.below B0.out HLD.out)
  have HS0 := Lib.hid (HS.out.below B0.out HLS.out)
  have HC0 := Lib.hid (HC2.out.below B0.out)
  have hlW := XC.out.lt
  go_wp2
  clear n1 n2
  go_loopw [3, 4] (fun al i wr => ∃ (k : Nat) (s : Int), k ≤ nd ∧ i = .int .i64 k ∧ al = .int .i64 s ∧ Hid (allM (ddt.take k) = s) ∧ Hid (Below W0.heap.size W0 wr) ∧ Hid (∀ (j : Nat) (h : j < ddt.length), j < k → (cntM (ptsM sets) ddt[j].at_ : Int) = ddt[j].count)) (fun _ i _ => nd - (RowKit.intOf i).toNat)
  case atStart => exact ⟨0, 0, Nat.zero_le _, rfl, rfl, Lib.hid rfl, Lib.hid (Below.refl _ _), Lib.hid (fun j _ h => absurd h (Nat.not_lt_zero _))⟩
  case round =>
    obtain ⟨k, s, hk, rfl, rfl, HA, HB, HG⟩ := hrel
    have HX := Lib.hid (XC.out.below HB.out hlW)
    have n1 := HX.out.cell 1 rfl
    have n2 := HX.out.cell 2 rfl
    by_cases hlt : k < nd
    case pos =>
      have hl0 : k < ddt.length := by rw [HLDT.out]; exact hlt
      obtain ⟨b, off, c', hvv, _, _, hcell⟩ := (HD0.out.below HB.out (fun b e => Nat.lt_of_lt_of_le (HLD.out b e) B0.out.size)).form (by omega)
      injection hvv with e1 e2 e3
      subst e1 e3
      clear e2
      obtain ⟨g0, g1, g2⟩ := ent_read hcell k hl0
      have hk1 : (k : Int) < (nd : Int) := by omega
      have HBS := Lib.hid (show ¬ (cntM (ptsM sets) ddt[k].at_ : Int) = ddt[k].count → false = ok from fun h => HOK.out ▸ (decide_eq_false (fun c => h (c.1 _ (List.getElem_mem hl0)))).symm)
      have HGS := Lib.hid (show (cntM (ptsM sets) ddt[k].at_ : Int) = ddt[k].count → ∀ (j : Nat) (h : j < ddt.length), j < k + 1 → (cntM (ptsM sets) ddt[j].at_ : Int) = ddt[j].count from fun hg j hj hjk => by
        by_cases e : j = k
        · subst e; exact hg
        · exact HG.out j hj (by omega))
      have HA2 := Lib.hid (show allM (ddt.take (k + 1)) = s + ddt[k].count from by rw [List.take_succ_eq_append_getElem hl0, allM_snoc, HA.out])
      have hab := all_bound (ddt.take (k + 1)) (fun e he => HKO.out e (List.mem_of_mem_take he))
      rw [HA2.out, List.length_take] at hab
      have hpos := (HKO.out _ (List.getElem_mem hl0)).2.2.1
      generalize ddt[k] = y at g0 g1 g2 HBS HGS HA2 hab hpos
      obtain ⟨r, HCN⟩ : ∃ r : Nat, Hid (cntM (ptsM sets) y.at_ = r) := ⟨_, Lib.hid rfl⟩
      rw [HCN.out] at HBS HGS
      have hwr : IntKind.wrap .i64 (s + y.count) = s + y.count := IntWalk.i64_in _ (by omega)
      have hbl : b < W0.heap.size := Nat.lt_of_lt_of_le (HLD.out b rfl) B0.out.size
      clear HA HG hl0 hcell hab
      by_cases hry : (r : Int) = y.count
      case neg =>
        have HF := Lib.hid (HBS.out hry)
        have hq1 : ((r : Int) != y.count) = true := by simpa using hry
        have hq2 : ((r : Int) == y.count) = false := by simpa using hry
        have hq3 : decide ((r : Int) = y.count) = false := by simpa using hry
        clear hry HBS HGS
        go_wp2_with fail
        refine wp_region_held_drew (S := fun w' => Box w' w.heap.size [.int .i64 txg, .slice A0 n k0, .slice (some ⟨b, off, none⟩) nd k1, .slice A2 parts.length k2, .bool dirty, .slice A3 safe.length k3, .int .i64 logn] ∧ w'.cell? ⟨b, off + k * 3 + 1, none⟩ = some (.int .i64 y.at_) ∧ w'.cell? ⟨b, off + k * 3 + 2, none⟩ = some (.int .i64 y.count)) (by kernel_rfl) ⟨HX.out, g1, g2⟩ (fun hHeld => ?_)
        refine wpAnyH_take (i := 0) (v := .agg ([.int .i64 txg, .slice A0 n k0, .slice (some ⟨b, off, none⟩) nd k1, .slice A2 parts.length k2, .bool dirty, .slice A3 safe.length k3, .int .i64 logn] : List Value).toArray) rfl (by kernel_rfl) (by kernel_rfl) (by kernel_rfl) (fun _ _ _ h => h) (Or.inl ⟨by first | kernel_rfl | rfl, fun w' hSw => exec_load_cs (b := w.heap.size) (off := 0) _ rfl aggCoreD (by kernel_rfl) _ rfl hSw.1.cells⟩) (by assumption) ?_
        try simp only [Act.put]
        refine wpAnyH_take (i := 1) (v := ?_) rfl (by kernel_rfl) (by kernel_rfl) (by kernel_rfl) (fun _ _ _ h => h) (Or.inl ⟨by first | kernel_rfl | rfl, ?_⟩) (by assumption) ?_
        rotate_left
        · (intro w' hSw; have hSc := hSw.1.cell 2 rfl; have hS1 := hSw.2.1; have hS2 := hSw.2.2; clear hSw; go_simp; try with_reducible rfl)
        try simp only [Act.put]
        refine wpAnyH_take (i := 2) (v := ?_) rfl (by kernel_rfl) (by kernel_rfl) (by kernel_rfl) (fun _ _ _ h => h) (Or.inl ⟨by first | kernel_rfl | rfl, ?_⟩) (by assumption) ?_
        rotate_left
        · (intro w' hSw; have hSc := hSw.1.cell 2 rfl; have hS1 := hSw.2.1; have hS2 := hSw.2.2; clear hSw; go_simp; try with_reducible rfl)
        try simp only [Act.put]
        refine wpAnyH_take (i := 3) (v := ?_) rfl (by kernel_rfl) (by kernel_rfl) (by kernel_rfl) (fun _ _ _ h => h) (Or.inl ⟨by first | kernel_rfl | rfl, ?_⟩) (by assumption) ?_
        rotate_left
        · (intro w' hSw; have hSc := hSw.1.cell 2 rfl; have hS1 := hSw.2.1; have hS2 := hSw.2.2; clear hSw; go_simp; try with_reducible rfl)
        try simp only [Act.put]
        refine wpAnyH_take (i := 4) (v := ?_) rfl (by kernel_rfl) (by kernel_rfl) (by kernel_rfl) (fun _ _ _ h => h) (Or.inl ⟨by first | kernel_rfl | rfl, ?_⟩) (by assumption) ?_
        rotate_left
        · (intro w' hSw; have hSc := hSw.1.cell 2 rfl; have hS1 := hSw.2.1; have hS2 := hSw.2.2; clear hSw; go_simp; try with_reducible rfl)
        try simp only [Act.put]
        refine wpAnyH_take (i := 5) (v := ?_) rfl (by kernel_rfl) (by kernel_rfl) (by kernel_rfl) (fun _ _ _ h => h) (Or.inl ⟨by first | kernel_rfl | rfl, ?_⟩) (by assumption) ?_
        rotate_left
        · (intro w' hSw; have hSc := hSw.1.cell 2 rfl; have hS1 := hSw.2.1; have hS2 := hSw.2.2; clear hSw; go_simp; try with_reducible rfl)
        try simp only [Act.put]
        refine wpAnyH_take (i := 6) (v := ?_) rfl (by kernel_rfl) (by kernel_rfl) (by kernel_rfl) (fun _ _ _ h => h) (Or.inl ⟨by first | kernel_rfl | rfl, ?_⟩) (by assumption) ?_
        rotate_left
        · (intro w' hSw; have hSc := hSw.1.cell 2 rfl; have hS1 := hSw.2.1; have hS2 := hSw.2.2; clear hSw; go_simp; try with_reducible rfl)
        try simp only [Act.put]
        refine wpAnyH_take (i := 8) (v := ?_) rfl (by kernel_rfl) (by kernel_rfl) (by kernel_rfl) (fun _ _ _ h => h) (Or.inl ⟨by first | kernel_rfl | rfl, ?_⟩) (by assumption) ?_
        rotate_left
        · (intro w' hSw; have hSc := hSw.1.cell 2 rfl; have hS1 := hSw.2.1; have hS2 := hSw.2.2; clear hSw; go_simp; try with_reducible rfl)
        try simp only [Act.put]
        refine wpAnyH_take (i := 9) (v := ?_) rfl (by kernel_rfl) (by kernel_rfl) (by kernel_rfl) (fun _ _ _ h => h) (Or.inl ⟨by first | kernel_rfl | rfl, ?_⟩) (by assumption) ?_
        rotate_left
        · (intro w' hSw; have hSc := hSw.1.cell 2 rfl; have hS1 := hSw.2.1; have hS2 := hSw.2.2; clear hSw; go_simp; try with_reducible rfl)
        try simp only [Act.put]
        refine wpAnyH_take (i := 10) (v := ?_) rfl (by kernel_rfl) (by kernel_rfl) (by kernel_rfl) (fun _ _ _ h => h) (Or.inl ⟨by first | kernel_rfl | rfl, ?_⟩) (by assumption) ?_
        rotate_left
        · (intro w' hSw; have hSc := hSw.1.cell 2 rfl; have hS1 := hSw.2.1; have hS2 := hSw.2.2; clear hSw; go_simp; try with_reducible rfl)
        try simp only [Act.put]
        refine wpAnyH_take (i := 11) (v := ?_) rfl (by kernel_rfl) (by kernel_rfl) (by kernel_rfl) (fun _ _ _ h => h) (Or.inl ⟨by first | kernel_rfl | rfl, ?_⟩) (by assumption) ?_
        rotate_left
        · (intro w' hSw; have hSc := hSw.1.cell 2 rfl; have hS1 := hSw.2.1; have hS2 := hSw.2.2; clear hSw; go_simp; try with_reducible rfl)
        try simp only [Act.put]
        refine wpAnyH_take (i := 12) (v := ?_) rfl (by kernel_rfl) (by kernel_rfl) (by kernel_rfl) (fun _ _ _ h => h) (Or.inl ⟨by first | kernel_rfl | rfl, ?_⟩) (by assumption) ?_
        rotate_left
        · (intro w' hSw; have hSc := hSw.1.cell 2 rfl; have hS1 := hSw.2.1; have hS2 := hSw.2.2; clear hSw; go_simp; try with_reducible rfl)
        try simp only [Act.put]
        refine wpAnyH_take (i := 13) (v := ?_) rfl (by kernel_rfl) (by kernel_rfl) (by kernel_rfl) (fun _ _ _ h => h) (Or.inl ⟨by first | kernel_rfl | rfl, ?_⟩) (by assumption) ?_
        rotate_left
        · (intro w' hSw; have hSc := hSw.1.cell 2 rfl; have hS1 := hSw.2.1; have hS2 := hSw.2.2; clear hSw; go_simp; try with_reducible rfl)
        try simp only [Act.put]
        refine wpAnyH_ready (rs := [7]) (by kernel_rfl) (by simp) ?_
        refine AllReadyH.cons rfl (fun K hK => ?_) AllReadyH.nil
        go_simp
        go_at_call 103
        refine (refs_is _ _ _ _ ⟨txg, sets, ddt, parts, dirty, safe, logn⟩ y.at_ r wr.drew (show CoreR wr.drew _ _ _ _ _ from (HC0.out.below HB.out).drew') HSH.out (by omega) HCN.out).mono ?_
        rintro e w3 ⟨rfl, hb3⟩
        have hb13 : Below wr.heap.size wr w3 := ((Below.refl _ wr).drew).trans hb3
        have hszr := HB.out.size
        have hbw : b < wr.heap.size := by omega
        have hlx := HX.out.lt
        go_wp2_with fail
        refine hK.out _ _ ⟨HX.out.below hb13 hlx, by rw [hb13.cell hbw]; exact g1, by rw [hb13.cell hbw]; exact g2⟩ (fun hHeld2 => ?_)
        clear hK K
        try simp only [Act.put]
        refine wpAnyH_take (i := 14) (v := ?_) rfl (by kernel_rfl) (by kernel_rfl) (by kernel_rfl) (fun _ _ _ h => h) (Or.inl ⟨by first | kernel_rfl | rfl, ?_⟩) (by assumption) ?_
        rotate_left
        · (intro w' hSw; clear hSw; go_simp; try with_reducible rfl)
        try simp only [Act.put]
        refine wpAnyH_done (by kernel_rfl) ?_ _
        go_simp
        clear hHeld hHeld2
        have HB3 := Lib.hid (HB.out.trans (hb13.mono HB.out.size))
        have HX3 := Lib.hid (HX.out.below hb13 hlx)
        have n2' := HX3.out.cell 2 rfl
        have g2' : w3.cell? ⟨b, off + k * 3 + 2, none⟩ = some (.int .i64 y.count) := by rw [hb13.cell hbw]; exact g2
        clear hb13 hb3 HB HX n1 n2 g0 g1 g2
        go_wp2
        go_ret
        exact ⟨ret_boolB HF.out, B0.out.trans (HB3.out.mono B0.out.size)⟩
      case pos =>
        have HG1 := Lib.hid (HGS.out hry)
        have hq1 : ((r : Int) != y.count) = false := by simpa using hry
        have hq2 : ((r : Int) == y.count) = true := by simpa using hry
        have hq3 : decide ((r : Int) = y.count) = true := by simpa using hry
        clear hry HBS HGS
        go_wp2_with fail
        refine wp_region_held_drew (S := fun w' => Box w' w.heap.size [.int .i64 txg, .slice A0 n k0, .slice (some ⟨b, off, none⟩) nd k1, .slice A2 parts.length k2, .bool dirty, .slice A3 safe.length k3, .int .i64 logn] ∧ w'.cell? ⟨b, off + k * 3 + 1, none⟩ = some (.int .i64 y.at_) ∧ w'.cell? ⟨b, off + k * 3 + 2, none⟩ = some (.int .i64 y.count)) (by kernel_rfl) ⟨HX.out, g1, g2⟩ (fun hHeld => ?_)
        refine wpAnyH_take (i := 0) (v := .agg ([.int .i64 txg, .slice A0 n k0, .slice (some ⟨b, off, none⟩) nd k1, .slice A2 parts.length k2, .bool dirty, .slice A3 safe.length k3, .int .i64 logn] : List Value).toArray) rfl (by kernel_rfl) (by kernel_rfl) (by kernel_rfl) (fun _ _ _ h => h) (Or.inl ⟨by first | kernel_rfl | rfl, fun w' hSw => exec_load_cs (b := w.heap.size) (off := 0) _ rfl aggCoreD (by kernel_rfl) _ rfl hSw.1.cells⟩) (by assumption) ?_
        try simp only [Act.put]
        refine wpAnyH_take (i := 1) (v := ?_) rfl (by kernel_rfl) (by kernel_rfl) (by kernel_rfl) (fun _ _ _ h => h) (Or.inl ⟨by first | kernel_rfl | rfl, ?_⟩) (by assumption) ?_
        rotate_left
        · (intro w' hSw; have hSc := hSw.1.cell 2 rfl; have hS1 := hSw.2.1; have hS2 := hSw.2.2; clear hSw; go_simp; try with_reducible rfl)
        try simp only [Act.put]
        refine wpAnyH_take (i := 2) (v := ?_) rfl (by kernel_rfl) (by kernel_rfl) (by kernel_rfl) (fun _ _ _ h => h) (Or.inl ⟨by first | kernel_rfl | rfl, ?_⟩) (by assumption) ?_
        rotate_left
        · (intro w' hSw; have hSc := hSw.1.cell 2 rfl; have hS1 := hSw.2.1; have hS2 := hSw.2.2; clear hSw; go_simp; try with_reducible rfl)
        try simp only [Act.put]
        refine wpAnyH_take (i := 3) (v := ?_) rfl (by kernel_rfl) (by kernel_rfl) (by kernel_rfl) (fun _ _ _ h => h) (Or.inl ⟨by first | kernel_rfl | rfl, ?_⟩) (by assumption) ?_
        rotate_left
        · (intro w' hSw; have hSc := hSw.1.cell 2 rfl; have hS1 := hSw.2.1; have hS2 := hSw.2.2; clear hSw; go_simp; try with_reducible rfl)
        try simp only [Act.put]
        refine wpAnyH_take (i := 4) (v := ?_) rfl (by kernel_rfl) (by kernel_rfl) (by kernel_rfl) (fun _ _ _ h => h) (Or.inl ⟨by first | kernel_rfl | rfl, ?_⟩) (by assumption) ?_
        rotate_left
        · (intro w' hSw; have hSc := hSw.1.cell 2 rfl; have hS1 := hSw.2.1; have hS2 := hSw.2.2; clear hSw; go_simp; try with_reducible rfl)
        try simp only [Act.put]
        refine wpAnyH_take (i := 5) (v := ?_) rfl (by kernel_rfl) (by kernel_rfl) (by kernel_rfl) (fun _ _ _ h => h) (Or.inl ⟨by first | kernel_rfl | rfl, ?_⟩) (by assumption) ?_
        rotate_left
        · (intro w' hSw; have hSc := hSw.1.cell 2 rfl; have hS1 := hSw.2.1; have hS2 := hSw.2.2; clear hSw; go_simp; try with_reducible rfl)
        try simp only [Act.put]
        refine wpAnyH_take (i := 6) (v := ?_) rfl (by kernel_rfl) (by kernel_rfl) (by kernel_rfl) (fun _ _ _ h => h) (Or.inl ⟨by first | kernel_rfl | rfl, ?_⟩) (by assumption) ?_
        rotate_left
        · (intro w' hSw; have hSc := hSw.1.cell 2 rfl; have hS1 := hSw.2.1; have hS2 := hSw.2.2; clear hSw; go_simp; try with_reducible rfl)
        try simp only [Act.put]
        refine wpAnyH_take (i := 8) (v := ?_) rfl (by kernel_rfl) (by kernel_rfl) (by kernel_rfl) (fun _ _ _ h => h) (Or.inl ⟨by first | kernel_rfl | rfl, ?_⟩) (by assumption) ?_
        rotate_left
        · (intro w' hSw; have hSc := hSw.1.cell 2 rfl; have hS1 := hSw.2.1; have hS2 := hSw.2.2; clear hSw; go_simp; try with_reducible rfl)
        try simp only [Act.put]
        refine wpAnyH_take (i := 9) (v := ?_) rfl (by kernel_rfl) (by kernel_rfl) (by kernel_rfl) (fun _ _ _ h => h) (Or.inl ⟨by first | kernel_rfl | rfl, ?_⟩) (by assumption) ?_
        rotate_left
        · (intro w' hSw; have hSc := hSw.1.cell 2 rfl; have hS1 := hSw.2.1; have hS2 := hSw.2.2; clear hSw; go_simp; try with_reducible rfl)
        try simp only [Act.put]
        refine wpAnyH_take (i := 10) (v := ?_) rfl (by kernel_rfl) (by kernel_rfl) (by kernel_rfl) (fun _ _ _ h => h) (Or.inl ⟨by first | kernel_rfl | rfl, ?_⟩) (by assumption) ?_
        rotate_left
        · (intro w' hSw; have hSc := hSw.1.cell 2 rfl; have hS1 := hSw.2.1; have hS2 := hSw.2.2; clear hSw; go_simp; try with_reducible rfl)
        try simp only [Act.put]
        refine wpAnyH_take (i := 11) (v := ?_) rfl (by kernel_rfl) (by kernel_rfl) (by kernel_rfl) (fun _ _ _ h => h) (Or.inl ⟨by first | kernel_rfl | rfl, ?_⟩) (by assumption) ?_
        rotate_left
        · (intro w' hSw; have hSc := hSw.1.cell 2 rfl; have hS1 := hSw.2.1; have hS2 := hSw.2.2; clear hSw; go_simp; try with_reducible rfl)
        try simp only [Act.put]
        refine wpAnyH_take (i := 12) (v := ?_) rfl (by kernel_rfl) (by kernel_rfl) (by kernel_rfl) (fun _ _ _ h => h) (Or.inl ⟨by first | kernel_rfl | rfl, ?_⟩) (by assumption) ?_
        rotate_left
        · (intro w' hSw; have hSc := hSw.1.cell 2 rfl; have hS1 := hSw.2.1; have hS2 := hSw.2.2; clear hSw; go_simp; try with_reducible rfl)
        try simp only [Act.put]
        refine wpAnyH_take (i := 13) (v := ?_) rfl (by kernel_rfl) (by kernel_rfl) (by kernel_rfl) (fun _ _ _ h => h) (Or.inl ⟨by first | kernel_rfl | rfl, ?_⟩) (by assumption) ?_
        rotate_left
        · (intro w' hSw; have hSc := hSw.1.cell 2 rfl; have hS1 := hSw.2.1; have hS2 := hSw.2.2; clear hSw; go_simp; try with_reducible rfl)
        try simp only [Act.put]
        refine wpAnyH_ready (rs := [7]) (by kernel_rfl) (by simp) ?_
        refine AllReadyH.cons rfl (fun K hK => ?_) AllReadyH.nil
        go_simp
        go_at_call 103
        refine (refs_is _ _ _ _ ⟨txg, sets, ddt, parts, dirty, safe, logn⟩ y.at_ r wr.drew (show CoreR wr.drew _ _ _ _ _ from (HC0.out.below HB.out).drew') HSH.out (by omega) HCN.out).mono ?_
        rintro e w3 ⟨rfl, hb3⟩
        have hb13 : Below wr.heap.size wr w3 := ((Below.refl _ wr).drew).trans hb3
        have hszr := HB.out.size
        have hbw : b < wr.heap.size := by omega
        have hlx := HX.out.lt
        go_wp2_with fail
        refine hK.out _ _ ⟨HX.out.below hb13 hlx, by rw [hb13.cell hbw]; exact g1, by rw [hb13.cell hbw]; exact g2⟩ (fun hHeld2 => ?_)
        clear hK K
        try simp only [Act.put]
        refine wpAnyH_take (i := 14) (v := ?_) rfl (by kernel_rfl) (by kernel_rfl) (by kernel_rfl) (fun _ _ _ h => h) (Or.inl ⟨by first | kernel_rfl | rfl, ?_⟩) (by assumption) ?_
        rotate_left
        · (intro w' hSw; clear hSw; go_simp; try with_reducible rfl)
        try simp only [Act.put]
        refine wpAnyH_done (by kernel_rfl) ?_ _
        go_simp
        clear hHeld hHeld2
        have HB3 := Lib.hid (HB.out.trans (hb13.mono HB.out.size))
        have HX3 := Lib.hid (HX.out.below hb13 hlx)
        have n2' := HX3.out.cell 2 rfl
        have g2' : w3.cell? ⟨b, off + k * 3 + 2, none⟩ = some (.int .i64 y.count) := by rw [hb13.cell hbw]; exact g2
        clear hb13 hb3 HB HX n1 n2 g0 g1 g2
        go_wp2
        go_roundw
        case rel => exact ⟨k + 1, s + y.count, by omega, by go_num, rfl, HA2, HB3, HG1⟩
        case measure => simp [RowKit.intOf]; omega
    case neg =>
      have HG1 := Lib.hid (show ∀ e ∈ ddt, (cntM (ptsM sets) e.at_ : Int) = e.count from fun e he => by
        obtain ⟨i, hi, rfl⟩ := List.mem_iff_getElem.1 he
        exact HG.out i hi (by have := HLDT.out; omega))
      have HA1 := Lib.hid (show allM ddt = s from by rw [← HA.out, List.take_of_length_le (by rw [HLDT.out]; omega)])
      have hsb := all_bound ddt HKO.out
      rw [HA1.out, HLDT.out] at hsb
      have HFIN := Lib.hid (show decide (s - (liveM (ptsM sets) : Nat) = 0) = ok from by
        rw [← HOK.out]
        by_cases e : s - (liveM (ptsM sets) : Nat) = 0
        · rw [decide_eq_true e, decide_eq_true (show CountsM _ from ⟨HG1.out, by show allM ddt = (liveM (ptsM sets) : Nat); rw [HA1.out]; omega⟩)]
        · rw [decide_eq_false e, decide_eq_false (fun c : CountsM ⟨txg, sets, ddt, parts, dirty, safe, logn⟩ => e (by have h2 : allM ddt = (liveM (ptsM sets) : Nat) := c.2; rw [HA1.out] at h2; omega))])
      have HSr := Lib.hid (HS0.out.below HB.out (fun b e => Nat.lt_of_lt_of_le (HLS.out b e) B0.out.size))
      have B1 := Lib.hid (B0.out.trans (HB.out.mono B0.out.size))
      have hkn : ¬ (k : Int) < (nd : Int) := by omega
      clear HA HG HB hlt HD0 HS0 HC0 XC B0
      go_wp2
      go_loop [3, 5, 6] (fun al i _ => ∃ (k m : Nat), k ≤ n ∧ i = .int .i64 k ∧ al = .int .i64 (s - (m : Int)) ∧ m ≤ 8 * k ∧ Hid (liveM (ptsM (sets.take k)) = m)) (fun _ i _ => n - (RowKit.intOf i).toNat)
      case atStart => exact ⟨0, 0, Nat.zero_le _, rfl, by simp, Nat.le_refl _, Lib.hid rfl⟩
      case round =>
        obtain ⟨k, m, hk, rfl, rfl, hm8, HM⟩ := hrel
        by_cases hlt : k < n
        case pos =>
          have hl0 : k < sets.length := by rw [HL.out]; exact hlt
          obtain ⟨b, off, c', hvv, _, _, hcell⟩ := HSr.out.form (by omega)
          injection hvv with e1 e2 e3
          subst e1 e3
          clear e2
          have hk1 : (k : Int) < (n : Int) := by omega
          have HC := Lib.hid hcell
          clear hcell
          go_wp2
          go_loop [3, 6] (fun al i => ∃ (j m : Nat), j ≤ 8 ∧ i = .int .i64 j ∧ al = .int .i64 (s - (m : Int)) ∧ m ≤ 8 * k + j ∧ Hid (liveM (ptsM (sets.take k) ++ sets[k].map.take j) = m)) (fun _ i => 8 - (RowKit.intOf i).toNat)
          case atStart => exact ⟨0, m, Nat.zero_le _, rfl, rfl, by omega, Lib.hid (by rw [List.take_zero, List.append_nil]; exact HM.out)⟩
          case round =>
            clear HM
            obtain ⟨j, m, hj, rfl, rfl, hmj, HM⟩ := hrel
            by_cases hj8 : j < 8
            case pos =>
              have hjl : j < sets[k].map.length := by rw [sets[k].h8]; exact hj8
              obtain ⟨g0, g1, g2⟩ := pt_read HC.out k hl0 j hjl
              have hj1 : (j : Int) < 8 := by omega
              have HT := Lib.hid (show liveM (ptsM (sets.take k) ++ sets[k].map.take (j + 1)) = m + if 0 < sets[k].map[j].at_ then 1 else 0 from by rw [take_snoc hjl, live_snoc, HM.out])
              generalize sets[k].map[j].at_ = y at g0 HT
              clear g1 g2 hjl HM
              by_cases hy : 0 < y
              case pos =>
                have HT2 := Lib.hid (show liveM (ptsM (sets.take k) ++ sets[k].map.take (j + 1)) = m + 1 from by rw [HT.out, if_pos hy])
                have hyd : y > 0 := hy
                have hwr : IntKind.wrap .i64 (s - (m : Int) - 1) = s - ((m + 1 : Nat) : Int) := by rw [IntWalk.i64_in _ (by omega)]; omega
                clear HT
                go_wp2
                go_round
                case rel => exact ⟨j + 1, m + 1, by omega, by go_num, by first | rfl | go_num, by omega, HT2⟩
                case measure => simp [RowKit.intOf]; omega
              case neg =>
                have HT2 := Lib.hid (show liveM (ptsM (sets.take k) ++ sets[k].map.take (j + 1)) = m from by rw [HT.out, if_neg hy]; rfl)
                have hyd : ¬ y > 0 := hy
                clear HT
                go_wp2
                go_round
                case rel => exact ⟨j + 1, m, by omega, by go_num, rfl, by omega, HT2⟩
                case measure => simp [RowKit.intOf]; omega
            case neg =>
              have HT2 := Lib.hid (show liveM (ptsM (sets.take (k + 1))) = m from by
                have e : sets[k].map.take j = sets[k].map := List.take_of_length_le (by rw [sets[k].h8]; omega)
                rw [ptsM_snoc hl0, ← HM.out, e])
              have hjj : ¬ (j : Int) < 8 := by omega
              clear HM
              go_wp2
              go_round
              case rel => exact ⟨k + 1, m, by omega, by go_num, rfl, by omega, HT2⟩
              case measure => simp [RowKit.intOf]; omega
        case neg =>
          have HF := Lib.hid (show decide (s - (m : Int) = 0) = ok from by
            rw [← HFIN.out, ← HM.out, List.take_of_length_le (by rw [HL.out]; omega)])
          have hqe : ((s - (m : Int)) == 0) = decide (s - (m : Int) = 0) := rfl
          go_wp2
          go_ret
          exact ⟨ret_boolB HF.out, B1.out⟩
theorem specCounts_is (vs vd vp vi : Value) (c : CoreM) (r : Bool) (w : World) (h : CoreR w vs vd vp vi c) (hs : CoreShort c) (hdok : DdtOkM c.ddt) (hr : decide (CountsM c) = r) :
    Calls Tryz.prog 58 #[cv c vs vd vp vi] w fun e w' => e = .returned (.bool r) ∧ Below w.heap.size w w' := hr ▸ specCounts_any vs vd vp vi c w h hs hdok
end Go.Proofs.YtobjgdnmlibofaaGreat
