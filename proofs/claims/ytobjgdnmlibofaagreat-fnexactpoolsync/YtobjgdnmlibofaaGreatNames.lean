/-
  Texts joined into one.
-/
import Derived.Test.YtobjgdnmlibofaaGreatMath
import Derived.Test.YtobjgdnmlibofaaGreatDdtCnt
import Derived.Test.YtobjgdnmlibofaaGreatBase
import Derived.Deep.AppendLies
import Derived.Maps.AppendAt
import Derived.BigQuiet
import Derived.OwnWalk
import Derived.Test.YtobjgdnmlibofaaGreatData
import Derived.Deep.RegionHeld3
import Derived.Laws.Cover1
import Derived.Maps.OwnSet

/-
  The document's counting of pointers: l6Refs, l6Counts, l6Sums.
-/
set_option maxRecDepth 100000
namespace Go.Proofs.YtobjgdnmlibofaaGreat
open Go.ChangeShapes Go.WideShapes Go.ChangeAt Go.RowKit Go.Proofs.Palim

theorem ptsM_snoc {ls : List CSetM} {k : Nat} (h : k < ls.length) : ptsM (ls.take (k + 1)) = ptsM (ls.take k) ++ ls[k].map := by
  unfold ptsM
  rw [List.take_succ_eq_append_getElem h, List.flatMap_append]
  simp
theorem ptsM_len : ∀ ls : List CSetM, (ptsM ls).length = ls.length * 8
  | [] => rfl
  | x :: ls => by
    have := ptsM_len ls
    unfold ptsM at this ⊢
    rw [List.flatMap_cons, List.length_append, x.h8, this, List.length_cons]
    omega
theorem take_snoc {α : Type} {l : List α} {j : Nat} (h : j < l.length) (P : List α) : P ++ l.take (j + 1) = (P ++ l.take j) ++ [l[j]] := by rw [List.take_succ_eq_append_getElem h, List.append_assoc]
theorem cnt_le (P : List PtrM) (a : Int) : cntM P a ≤ P.length := List.countP_le_length
theorem live_le (P : List PtrM) : liveM P ≤ P.length := List.countP_le_length
theorem cnt_snoc (P : List PtrM) (p : PtrM) (a : Int) : cntM (P ++ [p]) a = cntM P a + if p.at_ = a then 1 else 0 := by rw [cnt_append, cnt_cons]; rfl
theorem live_snoc (P : List PtrM) (p : PtrM) : liveM (P ++ [p]) = liveM P + if 0 < p.at_ then 1 else 0 := by
  unfold liveM
  rw [List.countP_append, List.countP_cons]
  by_cases h : 0 < p.at_ <;> simp [h]
theorem CoreR.drew' {w : World} {vs vd vp vi : Value} {c : CoreM} (h : CoreR w vs vd vp vi c) : CoreR w.drew vs vd vp vi c := ⟨h.s, h.d, h.p, h.i, h.ls, h.ld, h.lp, h.li⟩
theorem aggCoreD : Agg Tryz.prog 44 7 := ⟨Tryz.isAgg44, Tryz.sizeOf44⟩

set_option maxHeartbeats 4000000 in
theorem refs_any (vs vd vp vi : Value) (c : CoreM) (a : Int) (w : World) (h : CoreR w vs vd vp vi c) (hs : CoreShort c) (ha : 0 < a) :
    Calls Tryz.prog 103 #[cv c vs vd vp vi, .int .i64 a] w fun e w' => e = .returned (.int .i64 (cntM (ptsM c.sets) a : Nat)) ∧ Below w.heap.size w w' := by
  obtain ⟨txg, sets, ddt, parts, dirty, safe, logn⟩ := c
  obtain ⟨A0, k0, A1, k1, A2, k2, A3, k3, e0, e1, e2, e3⟩ := h.forms
  dsimp only at e0 e1 e2 e3
  subst e0 e1 e2 e3
  have HRR := Lib.hid h
  have HS := Lib.hid h.s
  have HLS := Lib.hid h.ls
  have HD := Lib.hid h.d
  have HLD := Lib.hid h.ld
  obtain ⟨n, HL⟩ : ∃ n, Hid (sets.length = n) := ⟨_, Lib.hid rfl⟩
  obtain ⟨nd, HLDT⟩ : ∃ nd, Hid (ddt.length = nd) := ⟨_, Lib.hid rfl⟩
  have hln : n ≤ 1048576 := HL.out ▸ hs.s
  have hck := h.s.le
  clear h hs
  dsimp only at HS HLS HD HLD hck
  rw [HL.out] at HS HLS hck
  rw [HLDT.out] at HD HLD
  unfold maxLen at hck
  have XC := Lib.hid (show Box _ w.heap.size [.int .i64 txg, .slice A0 n k0, .slice A1 nd k1, .slice A2 parts.length k2, .bool dirty, .slice A3 safe.length k3, .int .i64 logn] from box_new w #[.int .i64 txg, .slice A0 n k0, .slice A1 nd k1, .slice A2 parts.length k2, .bool dirty, .slice A3 safe.length k3, .int .i64 logn] 44)
  have B0 := Lib.hid (Below.new1 (w := w) (.cells #[.int .i64 txg, .slice A0 n k0, .slice A1 nd k1, .slice A2 parts.length k2, .bool dirty, .slice A3 safe.length k3, .int .i64 logn] 44))
  obtain ⟨R, HR⟩ : ∃ R : Nat, Hid (cntM (ptsM sets) a = R) := ⟨_, Lib.hid rfl⟩
  simp only
  rw [HR.out]
  have had : decide (a > 0) = true := decide_eq_true ha
  go_enter Tryz.func103, Tryz.ntmps103
  go_upto_region 1 with fail
  rw [HL.out, HLDT.out]
  obtain ⟨W0, HWE⟩ : ∃ W0, w.alloc (.cells #[.int .i64 txg, .slice A0 n k0, .slice A1 nd k1, .slice A2 parts.length k2, .bool dirty, .slice A3 safe.length k3, .int .i64 logn] 44) = W0 := ⟨_, rfl⟩
  rw [HWE] at XC B0 ⊢
  clear HWE
  have n1 := XC.out.cell 1 rfl
  go_wp2
  go_loop [5, 6, 7] (fun r i _ => ∃ (k m : Nat), k ≤ n ∧ i = .int .i64 k ∧ r = .int .i64 m ∧ m ≤ 8 * k ∧ Hid (cntM (ptsM (sets.take k)) a = m)) (fun _ i _ => n - (RowKit.intOf i).toNat)
  case atStart => exact ⟨0, 0, Nat.zero_le _, rfl, rfl, Nat.le_refl _, Lib.hid rfl⟩
  case round =>
    obtain ⟨k, m, hk, rfl, rfl, hm8, HM⟩ := hrel
    by_cases hlt : k < n
    case pos =>
      have hl0 : k < sets.length := by rw [HL.out]; exact hlt
      obtain ⟨b, off, c', hvv, _, _, hcell⟩ := (HS.out.below B0.out HLS.out).form (by omega)
      injection hvv with e1 e2 e3
      subst e1 e3
      clear e2
      have hk1 : (k : Int) < (n : Int) := by omega
      have HC := Lib.hid hcell
      clear hcell
      go_wp2
      go_loop [5, 7] (fun r i => ∃ (j m : Nat), j ≤ 8 ∧ i = .int .i64 j ∧ r = .int .i64 m ∧ m ≤ 8 * k + j ∧ Hid (cntM (ptsM (sets.take k) ++ sets[k].map.take j) a = m)) (fun _ i => 8 - (RowKit.intOf i).toNat)
      case atStart => exact ⟨0, m, Nat.zero_le _, rfl, rfl, by omega, Lib.hid (by rw [List.take_zero, List.append_nil]; exact HM.out)⟩
      case round =>
        clear HM
        obtain ⟨j, m, hj, rfl, rfl, hmj, HM⟩ := hrel
        by_cases hj8 : j < 8
        case pos =>
          have hjl : j < sets[k].map.length := by rw [sets[k].h8]; exact hj8
          obtain ⟨g0, g1, g2⟩ := pt_read HC.out k hl0 j hjl
          have hj1 : (j : Int) < 8 := by omega
          have HT := Lib.hid (show cntM (ptsM (sets.take k) ++ sets[k].map.take (j + 1)) a = m + if sets[k].map[j].at_ = a then 1 else 0 from by rw [take_snoc hjl, cnt_snoc, HM.out])
          generalize sets[k].map[j].at_ = y at g0 HT
          clear g1 g2 hjl HM
          by_cases hy : y = a
          case pos =>
            have HT2 := Lib.hid (show cntM (ptsM (sets.take k) ++ sets[k].map.take (j + 1)) a = m + 1 from by rw [HT.out, if_pos hy])
            have hyq : (y == a) = true := by simpa using hy
            have hyd : decide (y = a) = true := by simpa using hy
            have hwr : IntKind.wrap .i64 ((m : Int) + 1) = ((m + 1 : Nat) : Int) := by rw [IntWalk.i64_in _ (by omega)]; omega
            clear HT hy
            go_wp2
            go_round
            case rel => exact ⟨j + 1, m + 1, by omega, by go_num, by first | rfl | go_num, by omega, HT2⟩
            case measure => simp [RowKit.intOf]; omega
          case neg =>
            have HT2 := Lib.hid (show cntM (ptsM (sets.take k) ++ sets[k].map.take (j + 1)) a = m from by rw [HT.out, if_neg hy]; rfl)
            have hyq : (y == a) = false := by simpa using hy
            have hyd : decide (y = a) = false := by simpa using hy
            clear HT hy
            go_wp2
            go_round
            case rel => exact ⟨j + 1, m, by omega, by go_num, rfl, by omega, HT2⟩
            case measure => simp [RowKit.intOf]; omega
        case neg =>
          have HT2 := Lib.hid (show cntM (ptsM (sets.take (k + 1))) a = m from by
            have e : sets[k].map.take j = sets[k].map := List.take_of_length_le (by rw [sets[k].h8]; omega)
            rw [ptsM_snoc hl0, ← HM.out, e])
          have hjj : ¬ (j : Int) < 8 := by omega
          clear HM
          go_wp2
          go_round
          case rel => exact ⟨k + 1, m, by omega, by go_num, rfl, by omega, HT2⟩
          case measure => simp [RowKit.intOf]; omega
    case neg =>
      have HF := Lib.hid (show m = R from by rw [← HR.out, ← HM.out, List.take_of_length_le (by rw [HL.out]; omega)])
      go_wp2
      go_ret
      have hF := HF.out
      subst hF
      first
        | exact ⟨rfl, B0.out⟩
        | exact ⟨by rw [← HR.out], B0.out⟩
        | exact ⟨by simp only [HR.out], B0.out⟩
theorem refs_is (vs vd vp vi : Value) (c : CoreM) (a : Int) (r : Nat) (w : World) (h : CoreR w vs vd vp vi c) (hs : CoreShort c) (ha : 0 < a) (hr : cntM (ptsM c.sets) a = r) :
    Calls Tryz.prog 103 #[cv c vs vd vp vi, .int .i64 a] w fun e w' => e = .returned (.int .i64 r) ∧ Below w.heap.size w w' := hr ▸ refs_any vs vd vp vi c a w h hs ha

theorem allM_snoc (ls : List EntM) (x : EntM) : allM (ls ++ [x]) = allM ls + x.count := by
  unfold allM
  rw [List.map_append, List.sum_append]
  simp
theorem all_bound : ∀ ls : List EntM, (∀ e ∈ ls, EntOkM e) → 0 ≤ allM ls ∧ allM ls ≤ 1000 * ls.length
  | [], _ => by simp [allM]
  | x :: ls, h => by
    have ih := all_bound ls (fun e he => h e (List.mem_cons_of_mem _ he))
    obtain ⟨_, _, _, _, o5, o6⟩ := h x (by simp)
    have e : allM (x :: ls) = x.count + allM ls := by simp [allM]
    rw [e, List.length_cons]
    omega

set_option maxHeartbeats 8000000 in
theorem specCounts_any (vs vd vp vi : Value) (c : CoreM) (w : World) (h : CoreR w vs vd vp vi c) (hs : CoreShort c) (hdok : DdtOkM c.ddt) :
    Calls Tryz.prog 58 #[cv c vs vd vp vi] w fun e w' => e = .returned (.bool (decide (CountsM c))) ∧ Below w.heap.size w w' := by
  obtain ⟨ok, HOK⟩ : ∃ ok, Hid (decide (CountsM c) = ok) := ⟨_, Lib.hid rfl⟩
  rw [HOK.out]
  have HSH := Lib.hid hs
  have HDK := Lib.hid hdok
  obtain ⟨txg, sets, ddt, parts, dirty, safe, logn⟩ := c
  obtain ⟨A0, k0, A1, k1, A2, k2, A3, k3, e0, e1, e2, e3⟩ := h.forms
  dsimp only at e0 e1 e2 e3
  subst e0 e1 e2 e3
  have HRR := Lib.hid h
  have HS := Lib.hid h.s
  have HLS := Lib.hid h.ls
  have HD := Lib.hid h.d
  have HLD := Lib.hid h.ld
  obtain ⟨n, HL⟩ : ∃ n, Hid (sets.length = n) := ⟨_, Lib.hid rfl⟩
  obtain ⟨nd, HLDT⟩ : ∃ nd, Hid (ddt.length = nd) := ⟨_, Lib.hid rfl⟩
  have hln : n ≤ 1048576 := HL.out ▸ hs.s
  have hck := h.s.le
  clear h hs
  dsimp only at HS HLS HD HLD hck
  rw [HL.out] at HS HLS hck
  rw [HLDT.out] at HD HLD
  unfold maxLen at hck
  have XC := Lib.hid (show Box _ w.heap.size [.int .i64 txg, .slice A0 n k0, .slice A1 nd k1, .slice A2 parts.length k2, .bool dirty, .slice A3 safe.length k3, .int .i64 logn] from box_new w #[.int .i64 txg, .slice A0 n k0, .slice A1 nd k1, .slice A2 parts.length k2, .bool dirty, .slice A3 safe.length k3, .int .i64 logn] 44)
  have B0 := Lib.hid (Below.new1 (w := w) (.cells #[.int .i64 txg, .slice A0 n k0, .slice A1 nd k1, .slice A2 parts.length k2, .bool dirty, .slice A3 safe.length k3, .int .i64 logn] 44))
  have hnd48 : nd ≤ 48 := HLDT.out ▸ hdok.1
  have HKO := Lib.hid (show ∀ e ∈ ddt, EntOkM e from fun e he => by
    obtain ⟨i, hi, rfl⟩ := List.mem_iff_getElem.1 he
    exact (hdok.2 i hi hi).1)
  clear hdok
  have HC2 := Lib.hid (show CoreR w (.slice A0 n k0) (.slice A1 nd k1) (.slice A2 parts.length k2) (.slice A3 safe.length k3) ⟨txg, sets, ddt, parts, dirty, safe, logn⟩ from by
    have := HRR.out
    simp only [HL.out, HLDT.out] at this
    exact this)
  go_enter Tryz.func58, Tryz.ntmps58
  go_upto_region 1 with fail
  rw [HL.out, HLDT.out]
  obtain ⟨W0, HWE⟩ : ∃ W0, w.alloc (.cells #[.int .i64 txg, .slice A0 n k0, .slice A1 nd k1, .slice A2 parts.length k2, .bool dirty, .slice A3 safe.length k3, .int .i64 logn] 44) = W0 := ⟨_, rfl⟩
  rw [HWE] at XC B0 ⊢
  clear HWE
  have n1 := XC.out.cell 1 rfl
  have n2 := XC.out.cell 2 rfl
  have HD0 := Lib.hid (HD.out.below B0.out HLD.out)
  have HS0 := Lib.hid (HS.out.below B0.out HLS.out)
  have HC0 := Lib.hid (HC2.out.below B0.out)
  have hlW := XC.out.lt
  go_wp2
  clear n1 n2
  go_loopw [3, 4] (fun al i wr => ∃ (k : Nat) (s : Int), k ≤ nd ∧ i = .int .i64 k ∧ al = .int .i64 s ∧ Hid (allM (ddt.take k) = s) ∧ Hid (Below W0.heap.size W0 wr) ∧ Hid (∀ (j : Nat) (h : j < ddt.length), j < k → (cntM (ptsM sets) ddt[j].at_ : Int) = ddt[j].count)) (fun _ i _ => nd - (RowKit.intOf i).toNat)
  case atStart => exact ⟨0, 0, Nat.zero_le _, rfl, rfl, Lib.hid rfl, Lib.hid (Below.refl _ _), Lib.hid (fun j _ h => absurd h (Nat.not_lt_zero _))⟩
  case round =>
    obtain ⟨k, s, hk, rfl, rfl, HA, HB, HG⟩ := hrel
    have HX := Lib.hid (XC.out.below HB.out hlW)
    have n1 := HX.out.cell 1 rfl
    have n2 := HX.out.cell 2 rfl
    by_cases hlt : k < nd
    case pos =>
      have hl0 : k < ddt.length := by rw [HLDT.out]; exact hlt
      obtain ⟨b, off, c', hvv, _, _, hcell⟩ := (HD0.out.below HB.out (fun b e => Nat.lt_of_lt_of_le (HLD.out b e) B0.out.size)).form (by omega)
      injection hvv with e1 e2 e3
      subst e1 e3
      clear e2
      obtain ⟨g0, g1, g2⟩ := ent_read hcell k hl0
      have hk1 : (k : Int) < (nd : Int) := by omega
      have HBS := Lib.hid (show ¬ (cntM (ptsM sets) ddt[k].at_ : Int) = ddt[k].count → false = ok from fun h => HOK.out ▸ (decide_eq_false (fun c => h (c.1 _ (List.getElem_mem hl0)))).symm)
      have HGS := Lib.hid (show (cntM (ptsM sets) ddt[k].at_ : Int) = ddt[k].count → ∀ (j : Nat) (h : j < ddt.length), j < k + 1 → (cntM (ptsM sets) ddt[j].at_ : Int) = ddt[j].count from fun hg j hj hjk => by
        by_cases e : j = k
        · subst e; exact hg
        · exact HG.out j hj (by omega))
      have HA2 := Lib.hid (show allM (ddt.take (k + 1)) = s + ddt[k].count from by rw [List.take_succ_eq_append_getElem hl0, allM_snoc, HA.out])
      have hab := all_bound (ddt.take (k + 1)) (fun e he => HKO.out e (List.mem_of_mem_take he))
      rw [HA2.out, List.length_take] at hab
      have hpos := (HKO.out _ (List.getElem_mem hl0)).2.2.1
      generalize ddt[k] = y at g0 g1 g2 HBS HGS HA2 hab hpos
      obtain ⟨r, HCN⟩ : ∃ r : Nat, Hid (cntM (ptsM sets) y.at_ = r) := ⟨_, Lib.hid rfl⟩
      rw [HCN.out] at HBS HGS
      have hwr : IntKind.wrap .i64 (s + y.count) = s + y.count := IntWalk.i64_in _ (by omega)
      have hbl : b < W0.heap.size := Nat.lt_of_lt_of_le (HLD.out b rfl) B0.out.size
      clear HA HG hl0 hcell hab
      by_cases hry : (r : Int) = y.count
      case neg =>
        have HF := Lib.hid (HBS.out hry)
        have hq1 : ((r : Int) != y.count) = true := by simpa using hry
        have hq2 : ((r : Int) == y.count) = false := by simpa using hry
        have hq3 : decide ((r : Int) = y.count) = false := by simpa using hry
        clear hry HBS HGS
        go_wp2_with fail
        refine wp_region_held_drew (S := fun w' => Box w' w.heap.size [.int .i64 txg, .slice A0 n k0, .slice (some ⟨b, off, none⟩) nd k1, .slice A2 parts.length k2, .bool dirty, .slice A3 safe.length k3, .int .i64 logn] ∧ w'.cell? ⟨b, off + k * 3 + 1, none⟩ = some (.int .i64 y.at_) ∧ w'.cell? ⟨b, off + k * 3 + 2, none⟩ = some (.int .i64 y.count)) (by kernel_rfl) ⟨HX.out, g1, g2⟩ (fun hHeld => ?_)
        refine wpAnyH_take (i := 0) (v := .agg ([.int .i64 txg, .slice A0 n k0, .slice (some ⟨b, off, none⟩) nd k1, .slice A2 parts.length k2, .bool dirty, .slice A3 safe.length k3, .int .i64 logn] : List Value).toArray) rfl (by kernel_rfl) (by kernel_rfl) (by kernel_rfl) (fun _ _ _ h => h) (Or.inl ⟨by first | kernel_rfl | rfl, fun w' hSw => exec_load_cs (b := w.heap.size) (off := 0) _ rfl aggCoreD (by kernel_rfl) _ rfl hSw.1.cells⟩) (by assumption) ?_
        try simp only [Act.put]
        refine wpAnyH_take (i := 1) (v := ?_) rfl (by kernel_rfl) (by kernel_rfl) (by kernel_rfl) (fun _ _ _ h => h) (Or.inl ⟨by first | kernel_rfl | rfl, ?_⟩) (by assumption) ?_
        rotate_left
        · (intro w' hSw; have hSc := hSw.1.cell 2 rfl; have hS1 := hSw.2.1; have hS2 := hSw.2.2; clear hSw; go_simp; try with_reducible rfl)
        try simp only [Act.put]
        refine wpAnyH_take (i := 2) (v := ?_) rfl (by kernel_rfl) (by kernel_rfl) (by kernel_rfl) (fun _ _ _ h => h) (Or.inl ⟨by first | kernel_rfl | rfl, ?_⟩) (by assumption) ?_
        rotate_left
        · (intro w' hSw; have hSc := hSw.1.cell 2 rfl; have hS1 := hSw.2.1; have hS2 := hSw.2.2; clear hSw; go_simp; try with_reducible rfl)
        try simp only [Act.put]
        refine wpAnyH_take (i := 3) (v := ?_) rfl (by kernel_rfl) (by kernel_rfl) (by kernel_rfl) (fun _ _ _ h => h) (Or.inl ⟨by first | kernel_rfl | rfl, ?_⟩) (by assumption) ?_
        rotate_left
        · (intro w' hSw; have hSc := hSw.1.cell 2 rfl; have hS1 := hSw.2.1; have hS2 := hSw.2.2; clear hSw; go_simp; try with_reducible rfl)
        try simp only [Act.put]
        refine wpAnyH_take (i := 4) (v := ?_) rfl (by kernel_rfl) (by kernel_rfl) (by kernel_rfl) (fun _ _ _ h => h) (Or.inl ⟨by first | kernel_rfl | rfl, ?_⟩) (by assumption) ?_
        rotate_left
        · (intro w' hSw; have hSc := hSw.1.cell 2 rfl; have hS1 := hSw.2.1; have hS2 := hSw.2.2; clear hSw; go_simp; try with_reducible rfl)
        try simp only [Act.put]
        refine wpAnyH_take (i := 5) (v := ?_) rfl (by kernel_rfl) (by kernel_rfl) (by kernel_rfl) (fun _ _ _ h => h) (Or.inl ⟨by first | kernel_rfl | rfl, ?_⟩) (by assumption) ?_
        rotate_left
        · (intro w' hSw; have hSc := hSw.1.cell 2 rfl; have hS1 := hSw.2.1; have hS2 := hSw.2.2; clear hSw; go_simp; try with_reducible rfl)
        try simp only [Act.put]
        refine wpAnyH_take (i := 6) (v := ?_) rfl (by kernel_rfl) (by kernel_rfl) (by kernel_rfl) (fun _ _ _ h => h) (Or.inl ⟨by first | kernel_rfl | rfl, ?_⟩) (by assumption) ?_
        rotate_left
        · (intro w' hSw; have hSc := hSw.1.cell 2 rfl; have hS1 := hSw.2.1; have hS2 := hSw.2.2; clear hSw; go_simp; try with_reducible rfl)
        try simp only [Act.put]
        refine wpAnyH_take (i := 8) (v := ?_) rfl (by kernel_rfl) (by kernel_rfl) (by kernel_rfl) (fun _ _ _ h => h) (Or.inl ⟨by first | kernel_rfl | rfl, ?_⟩) (by assumption) ?_
        rotate_left
        · (intro w' hSw; have hSc := hSw.1.cell 2 rfl; have hS1 := hSw.2.1; have hS2 := hSw.2.2; clear hSw; go_simp; try with_reducible rfl)
        try simp only [Act.put]
        refine wpAnyH_take (i := 9) (v := ?_) rfl (by kernel_rfl) (by kernel_rfl) (by kernel_rfl) (fun _ _ _ h => h) (Or.inl ⟨by first | kernel_rfl | rfl, ?_⟩) (by assumption) ?_
        rotate_left
        · (intro w' hSw; have hSc := hSw.1.cell 2 rfl; have hS1 := hSw.2.1; have hS2 := hSw.2.2; clear hSw; go_simp; try with_reducible rfl)
        try simp only [Act.put]
        refine wpAnyH_take (i := 10) (v := ?_) rfl (by kernel_rfl) (by kernel_rfl) (by kernel_rfl) (fun _ _ _ h => h) (Or.inl ⟨by first | kernel_rfl | rfl, ?_⟩) (by assumption) ?_
        rotate_left
        · (intro w' hSw; have hSc := hSw.1.cell 2 rfl; have hS1 := hSw.2.1; have hS2 := hSw.2.2; clear hSw; go_simp; try with_reducible rfl)
        try simp only [Act.put]
        refine wpAnyH_take (i := 11) (v := ?_) rfl (by kernel_rfl) (by kernel_rfl) (by kernel_rfl) (fun _ _ _ h => h) (Or.inl ⟨by first | kernel_rfl | rfl, ?_⟩) (by assumption) ?_
        rotate_left
        · (intro w' hSw; have hSc := hSw.1.cell 2 rfl; have hS1 := hSw.2.1; have hS2 := hSw.2.2; clear hSw; go_simp; try with_reducible rfl)
        try simp only [Act.put]
        refine wpAnyH_take (i := 12) (v := ?_) rfl (by kernel_rfl) (by kernel_rfl) (by kernel_rfl) (fun _ _ _ h => h) (Or.inl ⟨by first | kernel_rfl | rfl, ?_⟩) (by assumption) ?_
        rotate_left
        · (intro w' hSw; have hSc := hSw.1.cell 2 rfl; have hS1 := hSw.2.1; have hS2 := hSw.2.2; clear hSw; go_simp; try with_reducible rfl)
        try simp only [Act.put]
        refine wpAnyH_take (i := 13) (v := ?_) rfl (by kernel_rfl) (by kernel_rfl) (by kernel_rfl) (fun _ _ _ h => h) (Or.inl ⟨by first | kernel_rfl | rfl, ?_⟩) (by assumption) ?_
        rotate_left
        · (intro w' hSw; have hSc := hSw.1.cell 2 rfl; have hS1 := hSw.2.1; have hS2 := hSw.2.2; clear hSw; go_simp; try with_reducible rfl)
        try simp only [Act.put]
        refine wpAnyH_ready (rs := [7]) (by kernel_rfl) (by simp) ?_
        refine AllReadyH.cons rfl (fun K hK => ?_) AllReadyH.nil
        go_simp
        go_at_call 103
        refine (refs_is _ _ _ _ ⟨txg, sets, ddt, parts, dirty, safe, logn⟩ y.at_ r wr.drew (show CoreR wr.drew _ _ _ _ _ from (HC0.out.below HB.out).drew') HSH.out (by omega) HCN.out).mono ?_
        rintro e w3 ⟨rfl, hb3⟩
        have hb13 : Below wr.heap.size wr w3 := ((Below.refl _ wr).drew).trans hb3
        have hszr := HB.out.size
        have hbw : b < wr.heap.size := by omega
        have hlx := HX.out.lt
        go_wp2_with fail
        refine hK.out _ _ ⟨HX.out.below hb13 hlx, by rw [hb13.cell hbw]; exact g1, by rw [hb13.cell hbw]; exact g2⟩ (fun hHeld2 => ?_)
        clear hK K
        try simp only [Act.put]
        refine wpAnyH_take (i := 14) (v := ?_) rfl (by kernel_rfl) (by kernel_rfl) (by kernel_rfl) (fun _ _ _ h => h) (Or.inl ⟨by first | kernel_rfl | rfl, ?_⟩) (by assumption) ?_
        rotate_left
        · (intro w' hSw; clear hSw; go_simp; try with_reducible rfl)
        try simp only [Act.put]
        refine wpAnyH_done (by kernel_rfl) ?_ _
        go_simp
        clear hHeld hHeld2
        have HB3 := Lib.hid (HB.out.trans (hb13.mono HB.out.size))
        have HX3 := Lib.hid (HX.out.below hb13 hlx)
        have n2' := HX3.out.cell 2 rfl
        have g2' : w3.cell? ⟨b, off + k * 3 + 2, none⟩ = some (.int .i64 y.count) := by rw [hb13.cell hbw]; exact g2
        clear hb13 hb3 HB HX n1 n2 g0 g1 g2
        go_wp2
        go_ret
        exact ⟨ret_boolB HF.out, B0.out.trans (HB3.out.mono B0.out.size)⟩
      case pos =>
        have HG1 := Lib.hid (HGS.out hry)
        have hq1 : ((r : Int) != y.count) = false := by simpa using hry
        have hq2 : ((r : Int) == y.count) = true := by simpa using hry
        have hq3 : decide ((r : Int) = y.count) = true := by simpa using hry
        clear hry HBS HGS
        go_wp2_with fail
        refine wp_region_held_drew (S := fun w' => Box w' w.heap.size [.int .i64 txg, .slice A0 n k0, .slice (some ⟨b, off, none⟩) nd k1, .slice A2 parts.length k2, .bool dirty, .slice A3 safe.length k3, .int .i64 logn] ∧ w'.cell? ⟨b, off + k * 3 + 1, none⟩ = some (.int .i64 y.at_) ∧ w'.cell? ⟨b, off + k * 3 + 2, none⟩ = some (.int .i64 y.count)) (by kernel_rfl) ⟨HX.out, g1, g2⟩ (fun hHeld => ?_)
        refine wpAnyH_take (i := 0) (v := .agg ([.int .i64 txg, .slice A0 n k0, .slice (some ⟨b, off, none⟩) nd k1, .slice A2 parts.length k2, .bool dirty, .slice A3 safe.length k3, .int .i64 logn] : List Value).toArray) rfl (by kernel_rfl) (by kernel_rfl) (by kernel_rfl) (fun _ _ _ h => h) (Or.inl ⟨by first | kernel_rfl | rfl, fun w' hSw => exec_load_cs (b := w.heap.size) (off := 0) _ rfl aggCoreD (by kernel_rfl) _ rfl hSw.1.cells⟩) (by assumption) ?_
        try simp only [Act.put]
        refine wpAnyH_take (i := 1) (v := ?_) rfl (by kernel_rfl) (by kernel_rfl) (by kernel_rfl) (fun _ _ _ h => h) (Or.inl ⟨by first | kernel_rfl | rfl, ?_⟩) (by assumption) ?_
        rotate_left
        · (intro w' hSw; have hSc := hSw.1.cell 2 rfl; have hS1 := hSw.2.1; have hS2 := hSw.2.2; clear hSw; go_simp; try with_reducible rfl)
        try simp only [Act.put]
        refine wpAnyH_take (i := 2) (v := ?_) rfl (by kernel_rfl) (by kernel_rfl) (by kernel_rfl) (fun _ _ _ h => h) (Or.inl ⟨by first | kernel_rfl | rfl, ?_⟩) (by assumption) ?_
        rotate_left
        · (intro w' hSw; have hSc := hSw.1.cell 2 rfl; have hS1 := hSw.2.1; have hS2 := hSw.2.2; clear hSw; go_simp; try with_reducible rfl)
        try simp only [Act.put]
        refine wpAnyH_take (i := 3) (v := ?_) rfl (by kernel_rfl) (by kernel_rfl) (by kernel_rfl) (fun _ _ _ h => h) (Or.inl ⟨by first | kernel_rfl | rfl, ?_⟩) (by assumption) ?_
        rotate_left
        · (intro w' hSw; have hSc := hSw.1.cell 2 rfl; have hS1 := hSw.2.1; have hS2 := hSw.2.2; clear hSw; go_simp; try with_reducible rfl)
        try simp only [Act.put]
        refine wpAnyH_take (i := 4) (v := ?_) rfl (by kernel_rfl) (by kernel_rfl) (by kernel_rfl) (fun _ _ _ h => h) (Or.inl ⟨by first | kernel_rfl | rfl, ?_⟩) (by assumption) ?_
        rotate_left
        · (intro w' hSw; have hSc := hSw.1.cell 2 rfl; have hS1 := hSw.2.1; have hS2 := hSw.2.2; clear hSw; go_simp; try with_reducible rfl)
        try simp only [Act.put]
        refine wpAnyH_take (i := 5) (v := ?_) rfl (by kernel_rfl) (by kernel_rfl) (by kernel_rfl) (fun _ _ _ h => h) (Or.inl ⟨by first | kernel_rfl | rfl, ?_⟩) (by assumption) ?_
        rotate_left
        · (intro w' hSw; have hSc := hSw.1.cell 2 rfl; have hS1 := hSw.2.1; have hS2 := hSw.2.2; clear hSw; go_simp; try with_reducible rfl)
        try simp only [Act.put]
        refine wpAnyH_take (i := 6) (v := ?_) rfl (by kernel_rfl) (by kernel_rfl) (by kernel_rfl) (fun _ _ _ h => h) (Or.inl ⟨by first | kernel_rfl | rfl, ?_⟩) (by assumption) ?_
        rotate_left
        · (intro w' hSw; have hSc := hSw.1.cell 2 rfl; have hS1 := hSw.2.1; have hS2 := hSw.2.2; clear hSw; go_simp; try with_reducible rfl)
        try simp only [Act.put]
        refine wpAnyH_take (i := 8) (v := ?_) rfl (by kernel_rfl) (by kernel_rfl) (by kernel_rfl) (fun _ _ _ h => h) (Or.inl ⟨by first | kernel_rfl | rfl, ?_⟩) (by assumption) ?_
        rotate_left
        · (intro w' hSw; have hSc := hSw.1.cell 2 rfl; have hS1 := hSw.2.1; have hS2 := hSw.2.2; clear hSw; go_simp; try with_reducible rfl)
        try simp only [Act.put]
        refine wpAnyH_take (i := 9) (v := ?_) rfl (by kernel_rfl) (by kernel_rfl) (by kernel_rfl) (fun _ _ _ h => h) (Or.inl ⟨by first | kernel_rfl | rfl, ?_⟩) (by assumption) ?_
        rotate_left
        · (intro w' hSw; have hSc := hSw.1.cell 2 rfl; have hS1 := hSw.2.1; have hS2 := hSw.2.2; clear hSw; go_simp; try with_reducible rfl)
        try simp only [Act.put]
        refine wpAnyH_take (i := 10) (v := ?_) rfl (by kernel_rfl) (by kernel_rfl) (by kernel_rfl) (fun _ _ _ h => h) (Or.inl ⟨by first | kernel_rfl | rfl, ?_⟩) (by assumption) ?_
        rotate_left
        · (intro w' hSw; have hSc := hSw.1.cell 2 rfl; have hS1 := hSw.2.1; have hS2 := hSw.2.2; clear hSw; go_simp; try with_reducible rfl)
        try simp only [Act.put]
        refine wpAnyH_take (i := 11) (v := ?_) rfl (by kernel_rfl) (by kernel_rfl) (by kernel_rfl) (fun _ _ _ h => h) (Or.inl ⟨by first | kernel_rfl | rfl, ?_⟩) (by assumption) ?_
        rotate_left
        · (intro w' hSw; have hSc := hSw.1.cell 2 rfl; have hS1 := hSw.2.1; have hS2 := hSw.2.2; clear hSw; go_simp; try with_reducible rfl)
        try simp only [Act.put]
        refine wpAnyH_take (i := 12) (v := ?_) rfl (by kernel_rfl) (by kernel_rfl) (by kernel_rfl) (fun _ _ _ h => h) (Or.inl ⟨by first | kernel_rfl | rfl, ?_⟩) (by assumption) ?_
        rotate_left
        · (intro w' hSw; have hSc := hSw.1.cell 2 rfl; have hS1 := hSw.2.1; have hS2 := hSw.2.2; clear hSw; go_simp; try with_reducible rfl)
        try simp only [Act.put]
        refine wpAnyH_take (i := 13) (v := ?_) rfl (by kernel_rfl) (by kernel_rfl) (by kernel_rfl) (fun _ _ _ h => h) (Or.inl ⟨by first | kernel_rfl | rfl, ?_⟩) (by assumption) ?_
        rotate_left
        · (intro w' hSw; have hSc := hSw.1.cell 2 rfl; have hS1 := hSw.2.1; have hS2 := hSw.2.2; clear hSw; go_simp; try with_reducible rfl)
        try simp only [Act.put]
        refine wpAnyH_ready (rs := [7]) (by kernel_rfl) (by simp) ?_
        refine AllReadyH.cons rfl (fun K hK => ?_) AllReadyH.nil
        go_simp
        go_at_call 103
        refine (refs_is _ _ _ _ ⟨txg, sets, ddt, parts, dirty, safe, logn⟩ y.at_ r wr.drew (show CoreR wr.drew _ _ _ _ _ from (HC0.out.below HB.out).drew') HSH.out (by omega) HCN.out).mono ?_
        rintro e w3 ⟨rfl, hb3⟩
        have hb13 : Below wr.heap.size wr w3 := ((Below.refl _ wr).drew).trans hb3
        have hszr := HB.out.size
        have hbw : b < wr.heap.size := by omega
        have hlx := HX.out.lt
        go_wp2_with fail
        refine hK.out _ _ ⟨HX.out.below hb13 hlx, by rw [hb13.cell hbw]; exact g1, by rw [hb13.cell hbw]; exact g2⟩ (fun hHeld2 => ?_)
        clear hK K
        try simp only [Act.put]
        refine wpAnyH_take (i := 14) (v := ?_) rfl (by kernel_rfl) (by kernel_rfl) (by kernel_rfl) (fun _ _ _ h => h) (Or.inl ⟨by first | kernel_rfl | rfl, ?_⟩) (by assumption) ?_
        rotate_left
        · (intro w' hSw; clear hSw; go_simp; try with_reducible rfl)
        try simp only [Act.put]
        refine wpAnyH_done (by kernel_rfl) ?_ _
        go_simp
        clear hHeld hHeld2
        have HB3 := Lib.hid (HB.out.trans (hb13.mono HB.out.size))
        have HX3 := Lib.hid (HX.out.below hb13 hlx)
        have n2' := HX3.out.cell 2 rfl
        have g2' : w3.cell? ⟨b, off + k * 3 + 2, none⟩ = some (.int .i64 y.count) := by rw [hb13.cell hbw]; exact g2
        clear hb13 hb3 HB HX n1 n2 g0 g1 g2
        go_wp2
        go_roundw
        case rel => exact ⟨k + 1, s + y.count, by omega, by go_num, rfl, HA2, HB3, HG1⟩
        case measure => simp [RowKit.intOf]; omega
    case neg =>
      have HG1 := Lib.hid (show ∀ e ∈ ddt, (cntM (ptsM sets) e.at_ : Int) = e.count from fun e he => by
        obtain ⟨i, hi, rfl⟩ := List.mem_iff_getElem.1 he
        exact HG.out i hi (by have := HLDT.out; omega))
      have HA1 := Lib.hid (show allM ddt = s from by rw [← HA.out, List.take_of_length_le (by rw [HLDT.out]; omega)])
      have hsb := all_bound ddt HKO.out
      rw [HA1.out, HLDT.out] at hsb
      have HFIN := Lib.hid (show decide (s - (liveM (ptsM sets) : Nat) = 0) = ok from by
        rw [← HOK.out]
        by_cases e : s - (liveM (ptsM sets) : Nat) = 0
        · rw [decide_eq_true e, decide_eq_true (show CountsM _ from ⟨HG1.out, by show allM ddt = (liveM (ptsM sets) : Nat); rw [HA1.out]; omega⟩)]
        · rw [decide_eq_false e, decide_eq_false (fun c : CountsM ⟨txg, sets, ddt, parts, dirty, safe, logn⟩ => e (by have h2 : allM ddt = (liveM (ptsM sets) : Nat) := c.2; rw [HA1.out] at h2; omega))])
      have HSr := Lib.hid (HS0.out.below HB.out (fun b e => Nat.lt_of_lt_of_le (HLS.out b e) B0.out.size))
      have B1 := Lib.hid (B0.out.trans (HB.out.mono B0.out.size))
      have hkn : ¬ (k : Int) < (nd : Int) := by omega
      clear HA HG HB hlt HD0 HS0 HC0 XC B0
      go_wp2
      go_loop [3, 5, 6] (fun al i _ => ∃ (k m : Nat), k ≤ n ∧ i = .int .i64 k ∧ al = .int .i64 (s - (m : Int)) ∧ m ≤ 8 * k ∧ Hid (liveM (ptsM (sets.take k)) = m)) (fun _ i _ => n - (RowKit.intOf i).toNat)
      case atStart => exact ⟨0, 0, Nat.zero_le _, rfl, by simp, Nat.le_refl _, Lib.hid rfl⟩
      case round =>
        obtain ⟨k, m, hk, rfl, rfl, hm8, HM⟩ := hrel
        by_cases hlt : k < n
        case pos =>
          have hl0 : k < sets.length := by rw [HL.out]; exact hlt
          obtain ⟨b, off, c', hvv, _, _, hcell⟩ := HSr.out.form (by omega)
          injection hvv with e1 e2 e3
          subst e1 e3
          clear e2
          have hk1 : (k : Int) < (n : Int) := by omega
          have HC := Lib.hid hcell
          clear hcell
          go_wp2
          go_loop [3, 6] (fun al i => ∃ (j m : Nat), j ≤ 8 ∧ i = .int .i64 j ∧ al = .int .i64 (s - (m : Int)) ∧ m ≤ 8 * k + j ∧ Hid (liveM (ptsM (sets.take k) ++ sets[k].map.take j) = m)) (fun _ i => 8 - (RowKit.intOf i).toNat)
          case atStart => exact ⟨0, m, Nat.zero_le _, rfl, rfl, by omega, Lib.hid (by rw [List.take_zero, List.append_nil]; exact HM.out)⟩
          case round =>
            clear HM
            obtain ⟨j, m, hj, rfl, rfl, hmj, HM⟩ := hrel
            by_cases hj8 : j < 8
            case pos =>
              have hjl : j < sets[k].map.length := by rw [sets[k].h8]; exact hj8
              obtain ⟨g0, g1, g2⟩ := pt_read HC.out k hl0 j hjl
              have hj1 : (j : Int) < 8 := by omega
              have HT := Lib.hid (show liveM (ptsM (sets.take k) ++ sets[k].map.take (j + 1)) = m + if 0 < sets[k].map[j].at_ then 1 else 0 from by rw [take_snoc hjl, live_snoc, HM.out])
              generalize sets[k].map[j].at_ = y at g0 HT
              clear g1 g2 hjl HM
              by_cases hy : 0 < y
              case pos =>
                have HT2 := Lib.hid (show liveM (ptsM (sets.take k) ++ sets[k].map.take (j + 1)) = m + 1 from by rw [HT.out, if_pos hy])
                have hyd : y > 0 := hy
                have hwr : IntKind.wrap .i64 (s - (m : Int) - 1) = s - ((m + 1 : Nat) : Int) := by rw [IntWalk.i64_in _ (by omega)]; omega
                clear HT
                go_wp2
                go_round
                case rel => exact ⟨j + 1, m + 1, by omega, by go_num, by first | rfl | go_num, by omega, HT2⟩
                case measure => simp [RowKit.intOf]; omega
              case neg =>
                have HT2 := Lib.hid (show liveM (ptsM (sets.take k) ++ sets[k].map.take (j + 1)) = m from by rw [HT.out, if_neg hy]; rfl)
                have hyd : ¬ y > 0 := hy
                clear HT
                go_wp2
                go_round
                case rel => exact ⟨j + 1, m, by omega, by go_num, rfl, by omega, HT2⟩
                case measure => simp [RowKit.intOf]; omega
            case neg =>
              have HT2 := Lib.hid (show liveM (ptsM (sets.take (k + 1))) = m from by
                have e : sets[k].map.take j = sets[k].map := List.take_of_length_le (by rw [sets[k].h8]; omega)
                rw [ptsM_snoc hl0, ← HM.out, e])
              have hjj : ¬ (j : Int) < 8 := by omega
              clear HM
              go_wp2
              go_round
              case rel => exact ⟨k + 1, m, by omega, by go_num, rfl, by omega, HT2⟩
              case measure => simp [RowKit.intOf]; omega
        case neg =>
          have HF := Lib.hid (show decide (s - (m : Int) = 0) = ok from by
            rw [← HFIN.out, ← HM.out, List.take_of_length_le (by rw [HL.out]; omega)])
          have hqe : ((s - (m : Int)) == 0) = decide (s - (m : Int) = 0) := rfl
          go_wp2
          go_ret
          exact ⟨ret_boolB HF.out, B1.out⟩
theorem specCounts_is (vs vd vp vi : Value) (c : CoreM) (r : Bool) (w : World) (h : CoreR w vs vd vp vi c) (hs : CoreShort c) (hdok : DdtOkM c.ddt) (hr : decide (CountsM c) = r) :
    Calls Tryz.prog 58 #[cv c vs vd vp vi] w fun e w' => e = .returned (.bool r) ∧ Below w.heap.size w w' := hr ▸ specCounts_any vs vd vp vi c w h hs hdok
end Go.Proofs.YtobjgdnmlibofaaGreat

/-
  append of a slice that reads as cells, empty or not, onto a slice of the call's own.
-/
set_option maxRecDepth 100000
namespace Go.Proofs.Palim
open Go Go.RowKit

section
variable {P : Program} (w : World)

theorem run_append_none (t ty e : TypeId) (i : TypeInfo) (ht : P.underlying t = some (.slice e)) (hi : P.info? e = some i) (base size : Nat) (v : Value) (n c : Nat) (xs : List Value) (hown : w.ownsRow base e size v n xs) :
    (Builtin.append_ #[t, t] ty #[v, .slice none 0 c]).run P w = .ok v w := by
  rcases hown.2 with ⟨rfl, rfl⟩ | ⟨g, cap, cur, rfl, _, _, hnc, _⟩
  · simp [Builtin.append_, run_underlying ht, sizeOf, typeInfo, hi, Builtin.lenOf, Builtin.firstCells]
  · simp [Builtin.append_, run_underlying ht, sizeOf, typeInfo, hi, Builtin.lenOf, Builtin.firstCells, hnc, storeCells]

theorem run_append_fresh (t ty : TypeId) (base : Nat) (e : TypeId) (i : TypeInfo) (z : Value) (size bytes : Nat) (ht : P.underlying t = some (.slice e)) (hi : P.info? e = some i) (hz : i.zero = some z)
    (hsize : i.size = size) (hby : i.bytes = bytes) (hzs : z.cells.size = size) (hsz : 0 < size)
    (v : Value) (n : Nat) (xs : List Value) (hown : w.ownsRow base e size v n xs)
    (u : Value) (m : Nat) (news : List Value) (hsl : Sl w size u m news) (h1 : ∀ u ∈ news, u.oneCell' = true)
    (h63 : n + m ≤ maxLen) (hbytes : (n + m) * bytes ≤ 140737488355328) (hbase : base ≤ w.heap.size) :
    ∃ A cap w', (Builtin.append_ #[t, t] ty #[v, u]).run P w = .ok (.slice A (n + m) cap) w' ∧
      w'.ownsRow base e size (.slice A (n + m) cap) (n + m) (xs ++ news) ∧ w.grownBy w' v.ownBlock ∧ ((Value.slice A (n + m) cap).ownBlock = v.ownBlock ∨ (Value.slice A (n + m) cap).ownBlock = some w.heap.size) := by
  obtain ⟨hl, A, c, rfl, h2, h3, h4⟩ := hsl
  cases A with
  | none =>
    have hm : m = 0 := h4.resolve_right (by rintro ⟨_, _, h, _⟩; cases h)
    subst hm
    have hn : news = [] := List.length_eq_zero_iff.1 (by rw [hl]; omega)
    subst hn
    have hr := run_append_none (P := P) w t ty e i ht hi base size v n c xs hown
    obtain ⟨_, A, cap, rfl, _⟩ := sl_of_own hown
    exact ⟨A, cap, w, hr, by rw [List.append_nil]; exact hown, ⟨rfl, rfl, rfl, Nat.le_refl _, fun _ _ _ => rfl⟩, .inl rfl⟩
  | some a =>
    have hnews : ∀ j u, news[j]? = some u → w.cell? (a.add j) = some u := by
      rcases h4 with h0 | ⟨b, off, hA, hc⟩
      · intro j u hu
        have hn : news = [] := List.length_eq_zero_iff.1 (by rw [hl, h0]; omega)
        rw [hn] at hu; cases hu
      · injection hA with hA
        subst hA
        intro j u hu
        have ha : (⟨b, off, none⟩ : Addr).add j = ⟨b, off + j, none⟩ := by unfold Addr.add; simp
        rw [ha]; exact hc j u hu
    obtain ⟨v', w', hr, h5, h6, _, h7⟩ := run_append_own_at (P := P) w base t ty e i z size bytes ht hi hz hsize hby hzs hsz v n xs hown a m c news hl hnews h1 h63 hbytes hbase
    obtain ⟨_, A, cap, rfl, _⟩ := sl_of_own h5
    exact ⟨A, cap, w', hr, h5, h6, h7⟩

theorem wp_append_fresh {o : Oper} {a : Act} {K : Act → World → Prop} {Q : Exit → Act → World → Prop} (s x : Operand) (t : TypeId)
    (ho : o.op = .call { callee := .builtin .append, args := #[s, x], argTypes := #[t, t] })
    (base : Nat) (e : TypeId) (i : TypeInfo) (z : Value) (size bytes : Nat) (ht : P.underlying t = some (.slice e)) (hi : P.info? e = some i) (hz : i.zero = some z)
    (hsize : i.size = size) (hby : i.bytes = bytes) (hzs : z.cells.size = size) (hsz : 0 < size)
    (v : Value) (n : Nat) (xs : List Value) (hs : a.eval s = v) (hown : w.ownsRow base e size v n xs)
    (u : Value) (m : Nat) (news : List Value) (hx : a.eval x = u) (hsl : Sl w size u m news) (h1 : ∀ u ∈ news, u.oneCell' = true)
    (h63 : n + m ≤ maxLen) (hbytes : (n + m) * bytes ≤ 140737488355328) (hbase : base ≤ w.heap.size)
    (h : ∀ A cap w', w'.ownsRow base e size (.slice A (n + m) cap) (n + m) (xs ++ news) → w.grownBy w' v.ownBlock → ((Value.slice A (n + m) cap).ownBlock = v.ownBlock ∨ (Value.slice A (n + m) cap).ownBlock = some w.heap.size) → K (a.put o.dst (.slice A (n + m) cap)) w') : o.wp P a w K Q := by
  obtain ⟨A, cap, w', hr, h2, h3, h4⟩ := run_append_fresh (P := P) w t o.type base e i z size bytes ht hi hz hsize hby hzs hsz v n xs hown u m news hsl h1 h63 hbytes hbase
  unfold Oper.wp execOp
  simp only [ho, resolve, invoke, builtin, Sem.run_bind, Sem.run_pure, Result.andThen_ok, List.map_toArray, List.map_cons, List.map_nil, hs, hx, hr]
  exact h A cap w' h2 h3 h4

theorem step_append_fresh {ops : Array Oper} {o : Oper} {a : Act} {K : Act → World → Prop} {Q : Exit → Act → World → Prop} {E : Prop} (hgd : o.guard = none) (s x : Operand) (t : TypeId)
    (ho : o.op = .call { callee := .builtin .append, args := #[s, x], argTypes := #[t, t] })
    (base : Nat) (e : TypeId) (i : TypeInfo) (z : Value) (size bytes : Nat) (ht : P.underlying t = some (.slice e)) (hi : P.info? e = some i) (hz : i.zero = some z)
    (hsize : i.size = size) (hby : i.bytes = bytes) (hzs : z.cells.size = size) (hsz : 0 < size)
    (v : Value) (n : Nat) (xs : List Value) (hs : a.eval s = v) (hown : w.ownsRow base e size v n xs)
    (u : Value) (m : Nat) (news : List Value) (hx : a.eval x = u) (hsl : Sl w size u m news) (h1 : ∀ u ∈ news, u.oneCell' = true)
    (h63 : n + m ≤ maxLen) (hbytes : (n + m) * bytes ≤ 140737488355328) (hbase : base ≤ w.heap.size)
    (h : ∀ A cap w', w'.ownsRow base e size (.slice A (n + m) cap) (n + m) (xs ++ news) → w.grownBy w' v.ownBlock → ((Value.slice A (n + m) cap).ownBlock = v.ownBlock ∨ (Value.slice A (n + m) cap).ownBlock = some w.heap.size) → K (a.put o.dst (.slice A (n + m) cap)) w') :
    if Region.wanted o (yielded ops a.tmps) = true then Oper.wp P o a w K Q else E := by
  have hw : Region.wanted o (yielded ops a.tmps) = true := by simp [Region.wanted, hgd]
  rw [if_pos hw]
  exact wp_append_fresh w s x t ho base e i z size bytes ht hi hz hsize hby hzs hsz v n xs hs hown u m news hx hsl h1 h63 hbytes hbase h
end
end Go.Proofs.Palim

/-
  append onto a slice of the call's own, in a list of operations; slices of strings cut and begun.
-/
set_option maxRecDepth 100000
namespace Go.Proofs.Palim
open Go Go.RowKit
theorem wpList_append_freshB {P : Program} (w : World) {ops : Array Oper} {rest : List Oper} {o : Oper} {a : Act} {Q : Exit → Act → World → Prop} (hgd : o.guard = none) (s x : Operand) (t : TypeId)
    (ho : o.op = .call { callee := .builtin .append, args := #[s, x], argTypes := #[t, t] })
    (base : Nat) (e : TypeId) (i : TypeInfo) (z : Value) (size bytes : Nat) (ht : P.underlying t = some (.slice e)) (hi : P.info? e = some i) (hz : i.zero = some z)
    (hsize : i.size = size) (hby : i.bytes = bytes) (hzs : z.cells.size = size) (hsz : 0 < size)
    (v : Value) (n : Nat) (xs : List Value) (hs : a.eval s = v) (hown : w.ownsRow base e size v n xs)
    (u : Value) (m : Nat) (news : List Value) (hx : a.eval x = u) (hsl : Sl w size u m news) (h1 : ∀ u ∈ news, u.oneCell' = true)
    (h63 : n + m ≤ maxLen) (hbytes : (n + m) * bytes ≤ 140737488355328) (hbase : base ≤ w.heap.size)
    (h : ∀ A cap w', w'.ownsRow base e size (.slice A (n + m) cap) (n + m) (xs ++ news) → w.grownBy w' v.ownBlock → ((Value.slice A (n + m) cap).ownBlock = v.ownBlock ∨ (Value.slice A (n + m) cap).ownBlock = some w.heap.size) → wpList P ops Q rest (a.put o.dst (.slice A (n + m) cap)) w') : wpList P ops Q (o :: rest) a w :=
  wpList_plain hgd fun _ hK => wp_append_fresh w s x t ho base e i z size bytes ht hi hz hsize hby hzs hsz v n xs hs hown u m news hx hsl h1 h63 hbytes hbase fun A cap w' h2 h3 h4 => hK _ _ (h A cap w' h2 h3 h4)
/-- The first k elements of what the call owns. -/
theorem own_take {w : World} {base e sz n k : Nat} {A : Option Addr} {cap : Nat} {xs : List Value} (h : w.ownsRow base e sz (.slice A n cap) n xs) (hk : k ≤ n) : w.ownsRow base e sz (.slice A k cap) k (xs.take (k * sz)) := by
  have hkn : k * sz ≤ n * sz := Nat.mul_le_mul_right sz hk
  refine ⟨by rw [List.length_take, h.1]; omega, ?_⟩
  rcases h.2 with ⟨hv, hn⟩ | ⟨g, c, cur, hv, hb, hg, h1, h2, h3, h4⟩
  · left
    injection hv with e1 e2 e3
    subst e1 e3
    obtain rfl : k = 0 := by omega
    exact ⟨rfl, rfl⟩
  · right
    injection hv with e1 e2 e3
    subst e1 e3
    refine ⟨g, cap, cur, rfl, hb, hg, by omega, h2, h3, ?_⟩
    rw [← h4, List.take_take, Nat.min_eq_left hkn]
end Go.Proofs.Palim
namespace Go.Proofs.YtobjgdnmlibofaaGreat
open Go.ChangeShapes Go.WideShapes Go.ChangeAt Go.RowKit Go.Proofs.Palim

theorem scs_oneB (ss : List ByteArray) : ∀ u ∈ scs ss, u.oneCell' = true := by
  intro u hu
  obtain ⟨s, _, rfl⟩ := List.mem_map.1 hu
  rfl
theorem sl_drop {w w' : World} {g n c k : Nat} {xs : List Value} (h : Sl w 1 (.slice (some ⟨g, 0, none⟩) n c) n xs) (hk : k < n) (hb : w'.heap[g]? = w.heap[g]?) : Sl w' 1 (.slice (some ⟨g, k, none⟩) (n - k) (c - k)) (n - k) (xs.drop k) := by
  obtain ⟨h1, A, c', hv, h2, h3, h4⟩ := h
  injection hv with e1 e2 e3
  subst e1 e3
  refine ⟨by rw [List.length_drop, h1]; omega, _, _, rfl, by omega, by omega, Or.inr ⟨g, k, rfl, fun j u hu => ?_⟩⟩
  obtain ⟨b, off, hA, hc⟩ := h4.resolve_left (by omega)
  injection hA with hA
  injection hA with ha hb2 hc2
  subst ha hb2
  rw [List.getElem?_drop] at hu
  have := hc _ _ hu
  rw [Nat.zero_add] at this
  exact (World.cell?_of_block hb).trans this
theorem sl_one (w : World) (s : ByteArray) (e : Nat) : Sl (w.alloc (.cells #[.string s] e)) 1 (.slice (some ⟨w.heap.size, 0, none⟩) 1 1) 1 [.string s] := by
  refine ⟨rfl, _, _, rfl, Nat.le_refl _, by unfold maxLen; omega, Or.inr ⟨w.heap.size, 0, rfl, fun j u hu => ?_⟩⟩
  have := (box_new w #[.string s] e).cell j hu
  rwa [Nat.zero_add]
theorem turned_grown {S : Nat → Prop} {a w w' : World} {row : Option Nat} (h : Turned S a w) (hg : w.grownBy w' row) (hr : ∀ b, row = some b → S b ∨ a.heap.size ≤ b) : Turned S a w' :=
  ⟨hg.os.trans h.os, hg.tape.trans h.tape, hg.output.trans h.output, Nat.le_trans h.size hg.size, fun i hi hn => (hg.block i (Nat.lt_of_lt_of_le hi h.size) (fun e => by
    rcases hr i e.symm with h1 | h1
    · exact hn h1
    · omega)).trans (h.block i hi hn)⟩
theorem sl_zero (w : World) (A : Option Addr) (c : Nat) (hc : c ≤ maxLen) : Sl w 1 (.slice A 0 c) 0 [] := ⟨rfl, A, c, rfl, Nat.zero_le _, hc, Or.inl rfl⟩
theorem below_grownB {w w' : World} {v : Value} {B : Nat} (hg : w.grownBy w' v.ownBlock) (hv : ∀ b, v.ownBlock = some b → B ≤ b) (hB : B ≤ w.heap.size) : Below B w w' := (Below.refl _ w).grown hg hB hv

end Go.Proofs.YtobjgdnmlibofaaGreat

/-
  One more set in a book that is being made in a box.
-/
set_option maxRecDepth 100000
namespace Go.Proofs.YtobjgdnmlibofaaGreat
open Go.ChangeShapes Go.WideShapes Go.ChangeAt Go.RowKit Go.Proofs.Palim

structure NmMore (w w4 w5 w6 : World) (xb : Nat) (old new : Value) (k : Nat) (ys : List Value) : Prop where
  c0 : w5.cell? ⟨xb, 0, none⟩ = some old
  f0 : w5.frozen? ⟨xb, 0, none⟩ = false
  box : Box w6 xb [new]
  own : w6.ownsRow w.heap.size 140 11 new k ys
  below : Below w.heap.size w w6
  hi : ∀ b, new.ownBlock = some b → xb < b
  low : ∀ g, g < xb → w6.heap[g]? = w4.heap[g]?
  size : w4.heap.size ≤ w6.heap.size
theorem nm_more {w w4 w5 : World} {xb : Nat} {D A2 : Option Addr} {k cap cap2 : Nat} {ys : List Value} (hx : Box w4 xb [.slice D k cap]) (hg : w4.grownBy w5 (Value.slice D k cap).ownBlock) (hK : ∀ b, (Value.slice D k cap).ownBlock = some b → xb < b) (hB : Below w.heap.size w w4) (hxb : w.heap.size ≤ xb)
    (hown : w5.ownsRow w.heap.size 140 11 (.slice A2 (k + 1) cap2) (k + 1) ys) (hloc : (Value.slice A2 (k + 1) cap2).ownBlock = (Value.slice D k cap).ownBlock ∨ (Value.slice A2 (k + 1) cap2).ownBlock = some w4.heap.size) :
    NmMore w w4 w5 (w5.setCell ⟨xb, 0, none⟩ (.slice A2 (k + 1) cap2)) xb (.slice D k cap) (.slice A2 (k + 1) cap2) (k + 1) ys := by
  have hxl := hx.lt
  have hhi : ∀ b, (Value.slice A2 (k + 1) cap2).ownBlock = some b → xb < b := fun b e => by
    rcases hloc with h | h
    · rw [h] at e; exact hK b e
    · rw [h] at e; have := Option.some.inj e; omega
  have hkeep : ∀ g, g ≤ xb → w5.heap[g]? = w4.heap[g]? := fun g hgx => hg.block g (by omega) (fun e => by have := hK g e.symm; omega)
  have h5 := hx.kept (hkeep xb (Nat.le_refl _))
  refine ⟨h5.cell 0 rfl, h5.open_ 0, h5.set 0 _, own_kept hown (fun b e => Below.heap_setCell w5 _ _ b (fun e2 => by have := hhi b e; simp only at e2; omega)), ?_, hhi, fun g hgx => ?_, ?_⟩
  · exact (hB.grown hg hB.size (fun b e => by have := hK b e; omega)).setCell (p := ⟨xb, 0, none⟩) hxb _
  · rw [Below.heap_setCell w5 _ _ g (fun e2 => by simp only at e2; omega)]
    exact hkeep g (by omega)
  · have := hg.size
    simp [World.setCell]
    exact this
end Go.Proofs.YtobjgdnmlibofaaGreat

/-
  The document's l4At and l4Roots.
-/
set_option maxRecDepth 100000
namespace Go.Proofs.YtobjgdnmlibofaaGreat
open Go.ChangeShapes Go.WideShapes Go.ChangeAt Go.RowKit Go.Proofs.Palim

theorem atM_eq : ∀ {ls : List SetM} {s : ByteArray} {k : Nat}, k ≤ ls.length → (∀ (j : Nat) (h : j < ls.length), j < k → Lt ls[j].name s) → (∀ (h : k < ls.length), ¬ Lt ls[k].name s) → atM ls s = k
  | [], s, k, hk, _, _ => by simp at hk; subst hk; rfl
  | a :: l, s, 0, _, _, h2 => by
    have := h2 (by simp)
    simp at this
    simp [atM, this]
  | a :: l, s, k + 1, hk, h1, h2 => by
    have ha := h1 0 (by simp) (by omega)
    simp at ha
    have ih := atM_eq (ls := l) (s := s) (k := k) (by simpa using hk) (fun j h hj => h1 (j + 1) (by simpa using h) (by omega)) (fun h => h2 (by simpa using h))
    simp [atM, ha] at ih ⊢
    exact ih
theorem ret_at {a b : Nat} {x y : Bool} (h : a = b) (h2 : x = y) : Ending.returned (.tuple #[.int .i64 (a : Int), .bool x]) = Ending.returned (.tuple #[.int .i64 (b : Int), .bool y]) := by rw [h, h2]

set_option maxHeartbeats 1000000 in
theorem l4At_any (v : Value) (ls : List SetM) (s : ByteArray) (w : World) (h : BookR w v ls) (hs : ls.length ≤ 1048576) :
    Calls Tryz.prog 128 #[.agg #[v], .string s] w fun e w' => e = .returned (.tuple #[.int .i64 (atM ls s : Int), .bool (thereM ls s)]) ∧ Below w.heap.size w w' := by
  have hb0 := Below.new1 (w := w) (.cells #[v] 94)
  have hX := box_new w #[v] 94
  have h1 := (h.below hb0 (Nat.le_refl _)).r
  clear h
  obtain ⟨n, HN⟩ : ∃ n, Hid (ls.length = n) := ⟨_, Lib.hid rfl⟩
  rw [HN.out] at h1 hs
  by_cases hn : n = 0
  · subst hn
    obtain ⟨_, A, c, rfl, _, _, _⟩ := h1
    have HE := Lib.hid (List.length_eq_zero_iff.1 HN.out)
    have HW := Lib.hid hb0
    clear hb0 hX
    go_enter Tryz.func128, Tryz.ntmps128
    go_wp2
    go_loop [6] (fun i => i = .int .i64 0) (fun _ => 0)
    case atStart => rfl
    case round =>
      subst hrel
      have hd : decide ((0 : Int) < 0) = false := rfl
      go_wp2_with fail
      go_quiet (fail)
      go_wp2
      go_ret2
      exact ⟨ret_at (by rw [HE.out]; rfl) (by rw [HE.out]; rfl), below_drewN HW.out _⟩
  · obtain ⟨b, off, c, rfl, hnc, hcm, hcell⟩ := h1.form (by omega)
    have HC := Lib.hid hcell
    have HW := Lib.hid hb0
    have HX := Lib.hid hX
    unfold maxLen at hcm
    clear hcell h1 hb0 hX
    go_enter Tryz.func128, Tryz.ntmps128
    go_wp2
    generalize (w.alloc (.cells #[.slice (some ⟨b, off, none⟩) n c] 94)) = W at HC HW HX
    have x0 := HX.out.cell 0 rfl
    go_loop [6] (fun i => ∃ k : Nat, k ≤ n ∧ i = .int .i64 k ∧ Hid (∀ (j : Nat) (h : j < ls.length), j < k → Lt ls[j].name s)) (fun i => n - (intOf i).toNat)
    case atStart => exact ⟨0, Nat.zero_le _, rfl, Lib.hid (fun j _ h => absurd h (Nat.not_lt_zero _))⟩
    case round =>
      obtain ⟨k, hk, rfl, HK⟩ := hrel
      by_cases hlt : k < n
      · have hl0 : k < ls.length := by rw [HN.out]; exact hlt
        have g0 := (set_read HC.out k hl0).all.1
        have hk1 : (k : Int) < (n : Int) := by omega
        by_cases hL : Lt ls[k].name s
        · have HK1 := Lib.hid (show ∀ (j : Nat) (h : j < ls.length), j < k + 1 → Lt ls[j].name s from fun j h hj => by
            rcases Nat.lt_succ_iff_lt_or_eq.1 hj with h2 | rfl
            · exact HK.out j h h2
            · exact hL)
          have hL2 : Op.bytesLess ls[k].name.toList s.toList = true := hL
          clear hL HK
          generalize ls[k] = x at g0 hL2
          go_wp2
          go_round
          case rel => exact ⟨k + 1, by omega, by go_num, HK1⟩
          case measure => simp [intOf]; omega
        · have HA := Lib.hid (atM_eq (by rw [HN.out]; exact hk) HK.out (fun _ => hL))
          have HT := Lib.hid (show thereM ls s = decide (ls[k].name = s) from by unfold thereM; rw [HA.out, List.getElem?_eq_getElem hl0])
          have hL2 : Op.bytesLess ls[k].name.toList s.toList = false := by simpa [Lt] using hL
          clear hL HK
          generalize ls[k] = x at g0 hL2 HT
          by_cases he : x.name = s
          · have he2 : (x.name.toList == s.toList) = true := by rw [he]; simp
            have HT2 := Lib.hid (HT.out.trans (decide_eq_true he))
            clear HT he
            go_wp2_with fail
            go_quiet (fail)
            go_wp2
            go_ret2
            exact ⟨ret_at HA.out.symm HT2.out.symm, below_drewN HW.out _⟩
          · have he2 : (x.name.toList == s.toList) = false := by rw [← beq_toListBytes, bytes_beq, decide_eq_false he]
            have HT2 := Lib.hid (HT.out.trans (decide_eq_false he))
            clear HT he
            go_wp2_with fail
            go_quiet (fail)
            go_wp2
            go_ret2
            exact ⟨ret_at HA.out.symm HT2.out.symm, below_drewN HW.out _⟩
      · have HA := Lib.hid (atM_eq (by rw [HN.out]; exact hk) HK.out (fun h => absurd h (by rw [HN.out]; exact hlt)))
        have HT2 := Lib.hid (show thereM ls s = false from by unfold thereM; rw [HA.out, List.getElem?_eq_none (by rw [HN.out]; omega)])
        have hd : decide ((k : Int) < (n : Int)) = false := decide_eq_false (by omega)
        clear HK
        go_wp2_with fail
        go_quiet (fail)
        go_wp2
        go_ret2
        exact ⟨ret_at HA.out.symm HT2.out.symm, below_drewN HW.out _⟩
end Go.Proofs.YtobjgdnmlibofaaGreat

/-
  The document's l4Roots.
-/
set_option maxRecDepth 100000
namespace Go.Proofs.YtobjgdnmlibofaaGreat
open Go.ChangeShapes Go.WideShapes Go.ChangeAt Go.RowKit Go.Proofs.Palim

theorem empty_of_size {s : ByteArray} (h : s.size = 0) : s = ⟨#[]⟩ := by
  obtain ⟨⟨l⟩⟩ := s
  have : l.length = 0 := h
  rw [List.length_eq_zero_iff.1 this]
theorem eqEmpty {s : ByteArray} (h : s.size = 0) : (s.toList == []) = true := by rw [empty_of_size h, ByteArray.toList_eq]; rfl
theorem neEmpty {s : ByteArray} (h : ¬ s.size = 0) : (s.toList == []) = false := by
  have h1 : (s == (⟨#[]⟩ : ByteArray)) = false := by
    rw [bytes_beq]
    exact decide_eq_false fun e => h (by rw [e]; rfl)
  rw [beq_toListBytes, ByteArray.toList_eq ⟨#[]⟩] at h1
  exact h1
theorem find_empty {ls : List SetM} (hn : ∀ y ∈ ls, NameOk y.name) {s : ByteArray} (h : s.size = 0) : findM ls s = none := by
  unfold findM
  rw [List.find?_eq_none]
  intro y hy
  have h1 := (hn y hy).1
  simp only [decide_eq_true_eq]
  intro e
  rw [e] at h1
  omega
theorem roots_empty {ls : List SetM} {x : SetM} {m : Nat} (hn : ∀ y ∈ ls, NameOk y.name) (h : x.frm.size = 0) : rootsM ls (m + 1) x = decide (x.kind = 1) := by
  rw [rootsM, find_empty hn h]
  by_cases hk : x.kind = 1
  · rw [if_pos ⟨hk, h⟩, decide_eq_true hk]
  · rw [if_neg (fun c => hk c.1), decide_eq_false hk]
theorem roots_none {ls : List SetM} {x : SetM} {m : Nat} (ha : Asc ls) (h : ¬ x.frm.size = 0) (ht : thereM ls x.frm = false) : rootsM ls (m + 1) x = false := by
  rw [rootsM, if_neg (fun c => h c.2), find_at ha, ht]
  simp
theorem roots_some {ls : List SetM} {x y : SetM} {m : Nat} (ha : Asc ls) (h : ¬ x.frm.size = 0) (ht : thereM ls x.frm = true) (hy : ls[atM ls x.frm]? = some y) : rootsM ls (m + 1) x = if y.kind = x.kind then false else rootsM ls m y := by
  rw [rootsM, if_neg (fun c => h c.2), find_at ha, ht, if_pos rfl, hy]
theorem there_lt {ls : List SetM} {s : ByteArray} (h : thereM ls s = true) : ∃ h : atM ls s < ls.length, ls[atM ls s].name = s := by
  unfold thereM at h
  split at h
  · rename_i x hx
    obtain ⟨hl, rfl⟩ := List.getElem?_eq_some_iff.1 hx
    exact ⟨hl, by simpa using h⟩
  · cases h

/-- The eleven cells of a set in a box, written. -/
theorem Box.set11 {w : World} {b : Nat} {x : SetM} (h : Box w b (kc x)) (y : SetM) :
    Box ((((((((((((w.setCell ⟨b, 0, none⟩ (.string y.name)).setCell ⟨b, 1, none⟩ (.int .i64 y.kind)).setCell ⟨b, 2, none⟩ (.string y.frm)).setCell ⟨b, 3, none⟩ (.string y.b0)).setCell ⟨b, 4, none⟩ (.string y.b1)).setCell ⟨b, 5, none⟩ (.string y.b2)).setCell ⟨b, 6, none⟩ (.string y.b3)).setCell ⟨b, 7, none⟩ (.string y.b4)).setCell ⟨b, 8, none⟩ (.string y.b5)).setCell ⟨b, 9, none⟩ (.string y.b6)).setCell ⟨b, 10, none⟩ (.string y.b7))) b (kc y) := (((((((((((h.set 0 (.string y.name)).set 1 (.int .i64 y.kind)).set 2 (.string y.frm)).set 3 (.string y.b0)).set 4 (.string y.b1)).set 5 (.string y.b2)).set 6 (.string y.b3)).set 7 (.string y.b4)).set 8 (.string y.b5)).set 9 (.string y.b6)).set 10 (.string y.b7))

theorem Box.other11 {w : World} {a b : Nat} {vs : List Value} (h : Box w a vs) (hb : a ≠ b) (y : SetM) : Box ((((((((((((w.setCell ⟨b, 0, none⟩ (.string y.name)).setCell ⟨b, 1, none⟩ (.int .i64 y.kind)).setCell ⟨b, 2, none⟩ (.string y.frm)).setCell ⟨b, 3, none⟩ (.string y.b0)).setCell ⟨b, 4, none⟩ (.string y.b1)).setCell ⟨b, 5, none⟩ (.string y.b2)).setCell ⟨b, 6, none⟩ (.string y.b3)).setCell ⟨b, 7, none⟩ (.string y.b4)).setCell ⟨b, 8, none⟩ (.string y.b5)).setCell ⟨b, 9, none⟩ (.string y.b6)).setCell ⟨b, 10, none⟩ (.string y.b7))) a vs := (((((((((((h.other (p := ⟨b, 0, none⟩) hb (.string y.name)).other (p := ⟨b, 1, none⟩) hb (.int .i64 y.kind)).other (p := ⟨b, 2, none⟩) hb (.string y.frm)).other (p := ⟨b, 3, none⟩) hb (.string y.b0)).other (p := ⟨b, 4, none⟩) hb (.string y.b1)).other (p := ⟨b, 5, none⟩) hb (.string y.b2)).other (p := ⟨b, 6, none⟩) hb (.string y.b3)).other (p := ⟨b, 7, none⟩) hb (.string y.b4)).other (p := ⟨b, 8, none⟩) hb (.string y.b5)).other (p := ⟨b, 9, none⟩) hb (.string y.b6)).other (p := ⟨b, 10, none⟩) hb (.string y.b7))
theorem below_set11 {B : Nat} {w0 w : World} {b : Nat} (h : Below B w0 w) (hb : B ≤ b) (y : SetM) : Below B w0 ((((((((((((w.setCell ⟨b, 0, none⟩ (.string y.name)).setCell ⟨b, 1, none⟩ (.int .i64 y.kind)).setCell ⟨b, 2, none⟩ (.string y.frm)).setCell ⟨b, 3, none⟩ (.string y.b0)).setCell ⟨b, 4, none⟩ (.string y.b1)).setCell ⟨b, 5, none⟩ (.string y.b2)).setCell ⟨b, 6, none⟩ (.string y.b3)).setCell ⟨b, 7, none⟩ (.string y.b4)).setCell ⟨b, 8, none⟩ (.string y.b5)).setCell ⟨b, 9, none⟩ (.string y.b6)).setCell ⟨b, 10, none⟩ (.string y.b7))) := (((((((((((h.setCell (p := ⟨b, 0, none⟩) hb (.string y.name)).setCell (p := ⟨b, 1, none⟩) hb (.int .i64 y.kind)).setCell (p := ⟨b, 2, none⟩) hb (.string y.frm)).setCell (p := ⟨b, 3, none⟩) hb (.string y.b0)).setCell (p := ⟨b, 4, none⟩) hb (.string y.b1)).setCell (p := ⟨b, 5, none⟩) hb (.string y.b2)).setCell (p := ⟨b, 6, none⟩) hb (.string y.b3)).setCell (p := ⟨b, 7, none⟩) hb (.string y.b4)).setCell (p := ⟨b, 8, none⟩) hb (.string y.b5)).setCell (p := ⟨b, 9, none⟩) hb (.string y.b6)).setCell (p := ⟨b, 10, none⟩) hb (.string y.b7))
theorem size_set11 (w : World) (b : Nat) (y : SetM) : ((((((((((((w.setCell ⟨b, 0, none⟩ (.string y.name)).setCell ⟨b, 1, none⟩ (.int .i64 y.kind)).setCell ⟨b, 2, none⟩ (.string y.frm)).setCell ⟨b, 3, none⟩ (.string y.b0)).setCell ⟨b, 4, none⟩ (.string y.b1)).setCell ⟨b, 5, none⟩ (.string y.b2)).setCell ⟨b, 6, none⟩ (.string y.b3)).setCell ⟨b, 7, none⟩ (.string y.b4)).setCell ⟨b, 8, none⟩ (.string y.b5)).setCell ⟨b, 9, none⟩ (.string y.b6)).setCell ⟨b, 10, none⟩ (.string y.b7))).heap.size = w.heap.size := by simp [World.setCell]

theorem setAt_of_box {w : World} {b : Nat} {x : SetM} (h : Box w b (kc x)) : SetAt w b 0 x := fun j u hu => by
  rw [Nat.zero_add]; exact h.cell j hu

set_option maxHeartbeats 2000000 in
theorem l4Roots_any (v : Value) (ls : List SetM) (x : SetM) (w : World) (h : BookR w v ls) (hs : ls.length ≤ 6) (hn : ∀ y ∈ ls, NameOk y.name) (ha : Asc ls) :
    Calls Tryz.prog 102 #[.agg #[v], .agg #[.string x.name, .int .i64 x.kind, .string x.frm, .string x.b0, .string x.b1, .string x.b2, .string x.b3, .string x.b4, .string x.b5, .string x.b6, .string x.b7]] w fun e w' => e = .returned (.bool (rootsM ls (ls.length + 1) x)) ∧ Below w.heap.size w w' := by
  have hnot : ∀ (x : Bool) (w : World), (Op.unary .not (.bool x)).run Tryz.prog w = .ok (.bool (!x)) w := fun _ _ => rfl
  obtain ⟨ok, HOK⟩ : ∃ ok, Hid (rootsM ls (ls.length + 1) x = ok) := ⟨_, Lib.hid rfl⟩
  rw [HOK.out]
  obtain ⟨hX, hY, hsz, hb0⟩ := box2 w #[v] #[.string x.name, .int .i64 x.kind, .string x.frm, .string x.b0, .string x.b1, .string x.b2, .string x.b3, .string x.b4, .string x.b5, .string x.b6, .string x.b7] 94 140
  have HR := Lib.hid h
  have HN := Lib.hid hn
  have HA := Lib.hid ha
  have HX := Lib.hid hX
  have HY := Lib.hid (show Box _ (w.heap.size + 1) (kc x) from hY)
  have HW := Lib.hid hb0
  clear h hn ha hX hY hb0
  obtain ⟨A, c, rfl⟩ := HR.out.form
  obtain ⟨n, HL⟩ : ∃ n, Hid (ls.length = n) := ⟨_, Lib.hid rfl⟩
  rw [HL.out] at hs hsz HX HW HY HOK
  rw [HL.out]
  have HR2 : Hid (BookR w (.slice A n c) ls) := Lib.hid (by have := HR.out; rwa [HL.out] at this)
  clear HR
  go_enter Tryz.func102, Tryz.ntmps102
  go_wp2
  generalize ((w.alloc (.cells #[.slice A n c] 94)).alloc (.cells #[.string x.name, .int .i64 x.kind, .string x.frm, .string x.b0, .string x.b1, .string x.b2, .string x.b3, .string x.b4, .string x.b5, .string x.b6, .string x.b7] 140)) = W at HX HY HW hsz
  go_loopw [5] (fun i wr => ∃ (k : Nat) (z : SetM), k ≤ n + 1 ∧ i = .int .i64 k ∧ w.heap.size + 2 ≤ wr.heap.size ∧ Hid (Box wr w.heap.size [.slice A n c]) ∧ Hid (Box wr (w.heap.size + 1) (kc z)) ∧ Hid (Below w.heap.size w wr) ∧ Hid (rootsM ls (n + 1 - k) z = ok)) (fun i _ => n + 1 - (intOf i).toNat)
  case atStart => exact ⟨0, x, Nat.zero_le _, rfl, by omega, HX, HY, HW, Lib.hid HOK.out⟩
  case round =>
    obtain ⟨k, z, hk, rfl, hsw, HX1, HY1, HW1, HQ⟩ := hrel
    clear HX HY HW HOK
    have x0 := HX1.out.cell 0 rfl
    obtain ⟨g0, g1, g2, g3, g4, g5, g6, g7, g8, g9, g10⟩ := (setAt_of_box HY1.out).all
    simp only [Nat.zero_add] at g1 g2 g3 g4 g5 g6 g7 g8 g9 g10
    by_cases hlt : k ≤ n
    · obtain ⟨m, HM⟩ : ∃ m, Hid (n + 1 - k = m + 1) := ⟨n - k, Lib.hid (by omega)⟩
      rw [HM.out] at HQ
      by_cases he : z.frm.size = 0
      · have he2 := eqEmpty he
        have HF := Lib.hid ((roots_empty HN.out he).symm.trans HQ.out)
        clear HQ he
        by_cases hk1 : z.kind = 1
        · have HF2 := Lib.hid (HF.out.symm.trans (decide_eq_true hk1))
          go_wp2
          go_ret
          exact ⟨ret_boolB HF2.out.symm, HW1.out⟩
        · have HF2 := Lib.hid (HF.out.symm.trans (decide_eq_false hk1))
          have hkq : (z.kind == 1) = false := by simp [hk1]
          go_wp2
          go_ret
          exact ⟨ret_boolB HF2.out.symm, HW1.out⟩
      · have he2 := neEmpty he
        have HE := Lib.hid he
        clear he
        go_wp2_with fail
        have HR1 := Lib.hid (HR2.out.below HW1.out (Nat.le_refl _))
        refine (l4At_any _ ls z.frm _ HR1.out (by rw [HL.out]; omega)).mono ?_
        rintro e w2 ⟨rfl, hb⟩
        have HX2 := Lib.hid (HX1.out.below hb (by omega))
        have HY2 := Lib.hid (HY1.out.below hb (by omega))
        have HW2 := Lib.hid (HW1.out.trans (hb.mono HW1.out.size))
        have hsw2 : w.heap.size + 2 ≤ w2.heap.size := Nat.le_trans hsw hb.size
        clear hb HX1 HY1 HW1 HR1 x0 g0 g1 g2 g3 g4 g5 g6 g7 g8 g9 g10 he2 hsw
        obtain ⟨at_, HAT⟩ : ∃ at_, Hid (atM ls z.frm = at_) := ⟨_, Lib.hid rfl⟩
        obtain ⟨th, HTH⟩ : ∃ th, Hid (thereM ls z.frm = th) := ⟨_, Lib.hid rfl⟩
        rw [HAT.out, HTH.out]
        have x0 := HX2.out.cell 0 rfl
        obtain ⟨g0, g1, g2, g3, g4, g5, g6, g7, g8, g9, g10⟩ := (setAt_of_box HY2.out).all
        simp only [Nat.zero_add] at g1 g2 g3 g4 g5 g6 g7 g8 g9 g10
        cases th with
        | false =>
          have HF := Lib.hid ((roots_none HA.out HE.out HTH.out).symm.trans HQ.out)
          go_wp2_with fail
          go_quiet (fail)
          go_wp2
          go_ret
          exact ⟨ret_boolB HF.out, below_drewN HW2.out _⟩
        | true =>
          obtain ⟨hal, -⟩ := there_lt HTH.out
          obtain ⟨y, hyy⟩ : ∃ y, ls[atM ls z.frm]? = some y := ⟨_, List.getElem?_eq_getElem hal⟩
          have HS := Lib.hid ((roots_some (m := m) HA.out HE.out HTH.out hyy).symm.trans HQ.out)
          have hpos : 0 < n := by have := HL.out; omega
          have hat : at_ < n := by have := HL.out; have := HAT.out; omega
          have hcells := (HR2.out.below HW2.out (Nat.le_refl _)).r
          rw [HL.out] at hcells
          obtain ⟨b, off, c', hv, hnc, hcm, hcell⟩ := hcells.form hpos
          injection hv with e1 e2 e3
          subst e1 e3
          have hrd := set_read hcell at_ (by rw [HL.out]; exact hat)
          have hy2 : ls[at_]'(by rw [HL.out]; exact hat) = y := by rw [HAT.out] at hyy; exact (List.getElem?_eq_some_iff.1 hyy).2
          rw [hy2] at hrd
          obtain ⟨q0, q1, q2, q3, q4, q5, q6, q7, q8, q9, q10⟩ := hrd.all
          have hat2 : (at_ : Int) < (n : Int) := by omega
          unfold maxLen at hcm
          have hbl : b < w.heap.size := HR2.out.l b rfl
          clear hrd hcell hcells hyy hal hy2
          by_cases hky : y.kind = z.kind
          · have HF := Lib.hid (HS.out.symm.trans (if_pos hky))
            have hkq : (y.kind == z.kind) = true := by simp [hky]
            clear HS hky
            go_wp2_with fail
            go_quiet (fail)
            go_wp2
            go_ret
            exact ⟨ret_boolB HF.out.symm, below_drewN HW2.out _⟩
          · have HF := Lib.hid ((if_neg hky).symm.trans HS.out)
            have hkq : (y.kind == z.kind) = false := by simp [hky]
            clear HS hky
            have f0 := HY2.out.open_ 0
            have f1 := HY2.out.open_ 1
            have f2 := HY2.out.open_ 2
            have f3 := HY2.out.open_ 3
            have f4 := HY2.out.open_ 4
            have f5 := HY2.out.open_ 5
            have f6 := HY2.out.open_ 6
            have f7 := HY2.out.open_ 7
            have f8 := HY2.out.open_ 8
            have f9 := HY2.out.open_ 9
            have f10 := HY2.out.open_ 10
            go_wp2_with fail
            go_quiet (fail)
            go_wp2
            go_roundw
            case rel => exact ⟨k + 1, y, by omega, by go_num, by simpa [World.setCell] using hsw2, Lib.hid (Box.other11 (HX2.out.drewN _) (by omega) y), Lib.hid (Box.set11 (HY2.out.drewN _) y), Lib.hid (below_set11 (below_drewN HW2.out _) (by omega) y), Lib.hid (by have := HM.out; rw [show n + 1 - (k + 1) = m by omega]; exact HF.out)⟩
            case measure => simp [intOf]; omega
    · have HF := Lib.hid (show false = ok from by have := HQ.out; rw [show n + 1 - k = 0 by omega] at this; exact this)
      go_wp2
      go_ret
      exact ⟨ret_boolB HF.out, HW1.out⟩
end Go.Proofs.YtobjgdnmlibofaaGreat

/-
  A set of the core by itself: impl.coreSetOk.
-/
set_option maxRecDepth 100000
namespace Go.Proofs.YtobjgdnmlibofaaGreat
open Go.ChangeShapes Go.WideShapes Go.ChangeAt Go.RowKit Go.Proofs.Palim

set_option maxHeartbeats 4000000 in
theorem implSet_any (x : CSetM) (w : World) (hz : x.name.size ≤ 1048576 ∧ x.frm.size ≤ 1048576) :
    Calls Tryz.prog 132 #[.agg (cc x).toArray] w fun e w' => e = .returned (.bool (decide (SetOkC x))) ∧ Below w.heap.size w w' := by
  have hnot : ∀ (x : Bool) (w : World), (Op.unary .not (.bool x)).run Tryz.prog w = .ok (.bool (!x)) w := fun _ _ => rfl
  obtain ⟨ok, HOK⟩ : ∃ ok, Hid (decide (SetOkC x) = ok) := ⟨_, Lib.hid rfl⟩
  rw [HOK.out]
  have hzn : x.name.size ≤ maxLen := by unfold maxLen; have := hz.1; omega
  have hzf : x.frm.size ≤ maxLen := by unfold maxLen; have := hz.2; omega
  have HZN := Lib.hid hzn
  have HZF := Lib.hid hzf
  have X0 := Lib.hid (show Box _ w.heap.size (cc x) from box_new w (cc x).toArray 89)
  have B0 := Lib.hid (Below.new1 (w := w) (.cells (cc x).toArray 89))
  clear hz hzn hzf
  have HBAD := Lib.hid (show ¬ SetOkC x → false = ok from fun h => HOK.out ▸ (decide_eq_false h).symm)
  have H8 := Lib.hid x.h8
  go_enter Tryz.func132, Tryz.ntmps132
  go_upto_region 1 with fail
  obtain ⟨W, HWE⟩ : ∃ W, w.alloc (.cells (cc x).toArray 89) = W := ⟨_, rfl⟩
  rw [HWE] at X0 B0 ⊢
  clear HWE
  obtain ⟨n0, n1, n2, -, -, -, -⟩ := ccBox (x := x) X0.out
  go_wp2_with fail
  refine (ImplBookName_any x.name _ HZN.out).mono ?_
  rintro e W ⟨rfl, rfl⟩
  have hb := Below.refl W.heap.size W
  have Y1 := Lib.hid (X0.out.below hb X0.out.lt)
  have B1 := Lib.hid (B0.out.trans (hb.mono B0.out.size))
  clear hb X0 B0 n0 n1 n2
  by_cases hnm : NameOk x.name
  case neg =>
    rw [decide_eq_false hnm]
    have HF := Lib.hid (HBAD.out (fun c => hnm c.1))
    clear hnm
    go_wp2
    go_ret
    exact ⟨ret_boolB HF.out, B1.out⟩
  case pos =>
  rw [decide_eq_true hnm]
  have HNM := Lib.hid hnm
  clear hnm
  obtain ⟨-, n1, n2, -, -, -, -⟩ := ccBox Y1.out
  by_cases hf0 : x.frm.size = 0
  case pos =>
    have hq := eqEmpty hf0
    have HF0 := Lib.hid hf0
    clear hf0
    obtain ⟨-, n1, -, n4, n5, n6, -⟩ := ccBox Y1.out
    by_cases hkd : 1 ≤ x.kind ∧ x.kind ≤ 2
    case neg =>
      have HF := Lib.hid (HBAD.out (fun c => hkd c.2.2.1))
      have hk2 : x.kind < 1 ∨ (¬ x.kind < 1 ∧ x.kind > 2) := by omega
      have hk3 : (x.kind != 1) = true := by simp; omega
      have hk4 : (x.kind != 2) = true := by simp; omega
      clear hkd
      go_wp2
      go_ret
      exact ⟨ret_boolB HF.out, B1.out⟩
    case pos =>
    have HKD := Lib.hid hkd
    have hk3 : ((x.kind != 1) = false ∧ True) ∨ ((x.kind != 1) = true ∧ (x.kind != 2) = false) := by
      rcases (show x.kind = 1 ∨ x.kind = 2 by omega) with h | h
      · exact Or.inl ⟨by simp [h], trivial⟩
      · exact Or.inr ⟨by simp [h], by simp [h]⟩
    clear hkd n4 n5 n6
    have HFIN := Lib.hid (show (∀ (j : Nat) (h : j < x.map.length), j < 8 → PtrOkM x.map[j]) → decide (PtrOkM x.home) = ok from fun hg => HOK.out ▸ (by
      have hm : ∀ p ∈ x.map, PtrOkM p := fun p hp => by
        obtain ⟨i, hi, rfl⟩ := List.mem_iff_getElem.1 hp
        exact hg i hi (by have := H8.out; omega)
      by_cases hho : PtrOkM x.home
      · rw [decide_eq_true hho]; exact (decide_eq_true (show SetOkC x from ⟨HNM.out, Or.inl HF0.out, HKD.out, hho, hm⟩)).symm
      · rw [decide_eq_false hho]; exact (decide_eq_false (fun c : SetOkC x => hho c.2.2.2.1)).symm))
    rcases hk3 with ⟨hk3, -⟩ | ⟨hk3, hk4⟩
    all_goals
      go_wp2_with (refine wpList_load_cs rfl _ rfl aggMap rfl (pcs x.map) (cmap_len x) (Box.part (p := ch x) (m := pcs x.map) (q := pc x.home ++ [.bool x.dirty]) Y1.out 3 rfl) ?_)
      clear hk3
      go_loopw [4, 32] (fun _ i wr => ∃ (k : Nat), k ≤ 8 ∧ i = .int .i64 k ∧ Hid (Below w.heap.size w wr) ∧ Hid (Box wr w.heap.size (cc x)) ∧ Hid (∀ (j : Nat) (h : j < x.map.length), j < k → PtrOkM x.map[j])) (fun _ i _ => 8 - (RowKit.intOf i).toNat)
      case atStart => exact ⟨0, Nat.zero_le _, rfl, B1, Y1, Lib.hid (fun j _ h => absurd h (Nat.not_lt_zero _))⟩
      case round =>
        obtain ⟨k, hk, rfl, HB, HX, HG⟩ := hrel
        by_cases hlt : k < 8
        case pos =>
          have hl0 : k < x.map.length := by rw [H8.out]; exact hlt
          have hk1 : (k : Int) < 8 := by omega
          have HBS := Lib.hid (show ¬ PtrOkM x.map[k] → false = ok from fun h => HBAD.out (fun c => h (c.2.2.2.2 _ (List.getElem_mem hl0))))
          have HGS := Lib.hid (show PtrOkM x.map[k] → ∀ (j : Nat) (h : j < x.map.length), j < k + 1 → PtrOkM x.map[j] from fun hg j hj hjk => by
            by_cases e : j = k
            · subst e; exact hg
            · exact HG.out j hj (by omega))
          have hix := idxMapD x.map H8.out k hl0
          generalize x.map[k] = y at hix HBS HGS
          clear HG hl0
          have hn := Below.new1 (w := wr) (.cells #[.int .i64 y.at_, .int .i64 y.sum, .int .i64 y.birth] 86)
          have HX1 := Lib.hid (HX.out.below hn HX.out.lt)
          have HB1 := Lib.hid (HB.out.trans (hn.mono HB.out.size))
          clear hn HX HB
          by_cases hg : PtrOkM y
          case neg =>
            have HF := Lib.hid (HBS.out hg)
            have hor := decide_eq_false hg
            clear hg HBS HGS
            go_wp2_with fail
            refine (implPtrOk_is y _ _ hor).mono ?_
            rintro e w4 ⟨rfl, hb⟩
            have HB2 := Lib.hid (HB1.out.trans (hb.mono HB1.out.size))
            clear hb
            go_wp2
            go_ret
            exact ⟨ret_boolB HF.out, HB2.out⟩
          case pos =>
            have HG1 := Lib.hid (HGS.out hg)
            have hor := decide_eq_true hg
            clear hg HBS HGS
            go_wp2_with fail
            refine (implPtrOk_is y _ _ hor).mono ?_
            rintro e w4 ⟨rfl, hb⟩
            have HB2 := Lib.hid (HB1.out.trans (hb.mono HB1.out.size))
            have HX2 := Lib.hid (HX1.out.below hb HX1.out.lt)
            clear hb
            go_wp2
            go_roundw
            case rel => exact ⟨k + 1, by omega, by go_num, HB2, HX2, HG1⟩
            case measure => simp [RowKit.intOf]; omega
        case neg =>
          have HF := Lib.hid (HFIN.out (fun j hj _ => HG.out j hj (by have := H8.out; omega)))
          have hkk : ¬ (k : Int) < 8 := by omega
          obtain ⟨-, -, -, n4, n5, n6, -⟩ := ccBox HX.out
          go_wp2_with fail
          refine (implPtrOk_is x.home _ _ rfl).mono ?_
          rintro e w4 ⟨rfl, hb⟩
          have HB2 := Lib.hid (HB.out.trans (hb.mono HB.out.size))
          clear hb
          go_wp2
          go_ret
          exact ⟨ret_boolB HF.out, HB2.out⟩
  case neg =>
    have hq := neEmpty hf0
    have HF0 := Lib.hid hf0
    clear hf0
    go_wp2_with fail
    refine (ImplBookName_any x.frm _ HZF.out).mono ?_
    rintro e W ⟨rfl, rfl⟩
    have hb := Below.refl W.heap.size W
    have Y2 := Lib.hid (Y1.out.below hb Y1.out.lt)
    have B2 := Lib.hid (B1.out.trans (hb.mono B1.out.size))
    clear hb Y1 B1 n1 n2
    by_cases hfm : NameOk x.frm
    case neg =>
      rw [decide_eq_false hfm]
      have HF := Lib.hid (HBAD.out (fun c => by rcases c.2.1 with h | h; exact HF0.out h; exact hfm h))
      clear hfm
      go_wp2
      go_ret
      exact ⟨ret_boolB HF.out, B2.out⟩
    case pos =>
    rw [decide_eq_true hfm]
    have HFM := Lib.hid hfm
    clear hfm
    obtain ⟨-, n1, -, n4, n5, n6, -⟩ := ccBox Y2.out
    by_cases hkd : 1 ≤ x.kind ∧ x.kind ≤ 2
    case neg =>
      have HF := Lib.hid (HBAD.out (fun c => hkd c.2.2.1))
      have hk2 : x.kind < 1 ∨ (¬ x.kind < 1 ∧ x.kind > 2) := by omega
      have hk3 : (x.kind != 1) = true := by simp; omega
      have hk4 : (x.kind != 2) = true := by simp; omega
      clear hkd
      go_wp2
      go_ret
      exact ⟨ret_boolB HF.out, B2.out⟩
    case pos =>
    have HKD := Lib.hid hkd
    have hk3 : ((x.kind != 1) = false ∧ True) ∨ ((x.kind != 1) = true ∧ (x.kind != 2) = false) := by
      rcases (show x.kind = 1 ∨ x.kind = 2 by omega) with h | h
      · exact Or.inl ⟨by simp [h], trivial⟩
      · exact Or.inr ⟨by simp [h], by simp [h]⟩
    clear hkd n4 n5 n6
    have HFIN := Lib.hid (show (∀ (j : Nat) (h : j < x.map.length), j < 8 → PtrOkM x.map[j]) → decide (PtrOkM x.home) = ok from fun hg => HOK.out ▸ (by
      have hm : ∀ p ∈ x.map, PtrOkM p := fun p hp => by
        obtain ⟨i, hi, rfl⟩ := List.mem_iff_getElem.1 hp
        exact hg i hi (by have := H8.out; omega)
      by_cases hho : PtrOkM x.home
      · rw [decide_eq_true hho]; exact (decide_eq_true (show SetOkC x from ⟨HNM.out, Or.inr HFM.out, HKD.out, hho, hm⟩)).symm
      · rw [decide_eq_false hho]; exact (decide_eq_false (fun c : SetOkC x => hho c.2.2.2.1)).symm))
    rcases hk3 with ⟨hk3, -⟩ | ⟨hk3, hk4⟩
    all_goals
      go_wp2_with (refine wpList_load_cs rfl _ rfl aggMap rfl (pcs x.map) (cmap_len x) (Box.part (p := ch x) (m := pcs x.map) (q := pc x.home ++ [.bool x.dirty]) Y2.out 3 rfl) ?_)
      clear hk3
      go_loopw [4, 32] (fun _ i wr => ∃ (k : Nat), k ≤ 8 ∧ i = .int .i64 k ∧ Hid (Below w.heap.size w wr) ∧ Hid (Box wr w.heap.size (cc x)) ∧ Hid (∀ (j : Nat) (h : j < x.map.length), j < k → PtrOkM x.map[j])) (fun _ i _ => 8 - (RowKit.intOf i).toNat)
      case atStart => exact ⟨0, Nat.zero_le _, rfl, B2, Y2, Lib.hid (fun j _ h => absurd h (Nat.not_lt_zero _))⟩
      case round =>
        obtain ⟨k, hk, rfl, HB, HX, HG⟩ := hrel
        by_cases hlt : k < 8
        case pos =>
          have hl0 : k < x.map.length := by rw [H8.out]; exact hlt
          have hk1 : (k : Int) < 8 := by omega
          have HBS := Lib.hid (show ¬ PtrOkM x.map[k] → false = ok from fun h => HBAD.out (fun c => h (c.2.2.2.2 _ (List.getElem_mem hl0))))
          have HGS := Lib.hid (show PtrOkM x.map[k] → ∀ (j : Nat) (h : j < x.map.length), j < k + 1 → PtrOkM x.map[j] from fun hg j hj hjk => by
            by_cases e : j = k
            · subst e; exact hg
            · exact HG.out j hj (by omega))
          have hix := idxMapD x.map H8.out k hl0
          generalize x.map[k] = y at hix HBS HGS
          clear HG hl0
          have hn := Below.new1 (w := wr) (.cells #[.int .i64 y.at_, .int .i64 y.sum, .int .i64 y.birth] 86)
          have HX1 := Lib.hid (HX.out.below hn HX.out.lt)
          have HB1 := Lib.hid (HB.out.trans (hn.mono HB.out.size))
          clear hn HX HB
          by_cases hg : PtrOkM y
          case neg =>
            have HF := Lib.hid (HBS.out hg)
            have hor := decide_eq_false hg
            clear hg HBS HGS
            go_wp2_with fail
            refine (implPtrOk_is y _ _ hor).mono ?_
            rintro e w4 ⟨rfl, hb⟩
            have HB2 := Lib.hid (HB1.out.trans (hb.mono HB1.out.size))
            clear hb
            go_wp2
            go_ret
            exact ⟨ret_boolB HF.out, HB2.out⟩
          case pos =>
            have HG1 := Lib.hid (HGS.out hg)
            have hor := decide_eq_true hg
            clear hg HBS HGS
            go_wp2_with fail
            refine (implPtrOk_is y _ _ hor).mono ?_
            rintro e w4 ⟨rfl, hb⟩
            have HB2 := Lib.hid (HB1.out.trans (hb.mono HB1.out.size))
            have HX2 := Lib.hid (HX1.out.below hb HX1.out.lt)
            clear hb
            go_wp2
            go_roundw
            case rel => exact ⟨k + 1, by omega, by go_num, HB2, HX2, HG1⟩
            case measure => simp [RowKit.intOf]; omega
        case neg =>
          have HF := Lib.hid (HFIN.out (fun j hj _ => HG.out j hj (by have := H8.out; omega)))
          have hkk : ¬ (k : Int) < 8 := by omega
          obtain ⟨-, -, -, n4, n5, n6, -⟩ := ccBox HX.out
          go_wp2_with fail
          refine (implPtrOk_is x.home _ _ rfl).mono ?_
          rintro e w4 ⟨rfl, hb⟩
          have HB2 := Lib.hid (HB.out.trans (hb.mono HB.out.size))
          clear hb
          go_wp2
          go_ret
          exact ⟨ret_boolB HF.out, HB2.out⟩
theorem implSet_is (x : CSetM) (r : Bool) (w : World) (hz : x.name.size ≤ 1048576 ∧ x.frm.size ≤ 1048576) (hr : decide (SetOkC x) = r) :
    Calls Tryz.prog 132 #[.agg (cc x).toArray] w fun e w' => e = .returned (.bool r) ∧ Below w.heap.size w w' := hr ▸ implSet_any x w hz
end Go.Proofs.YtobjgdnmlibofaaGreat

/-
  The document's BookOk.
-/
set_option maxRecDepth 100000
namespace Go.Proofs.YtobjgdnmlibofaaGreat
open Go.ChangeShapes Go.WideShapes Go.ChangeAt Go.RowKit Go.Proofs.Palim

/-- The sets before k are right, each behind the one before it. -/
def GoodTo (ls : List SetM) (k : Nat) : Prop := ∀ (j : Nat) (h : j < ls.length), j < k → SetOkM ls[j] ∧ ∀ (_ : 0 < j), Lt (ls[j - 1]'(by omega)).name ls[j].name
theorem asc_of_adj {ls : List SetM} (h : ∀ (j : Nat) (h : j < ls.length) (_ : 0 < j), Lt (ls[j - 1]'(by omega)).name ls[j].name) : Asc ls := by
  unfold Asc
  rw [List.pairwise_iff_getElem]
  intro i j hi hj hij
  induction j with
  | zero => omega
  | succ j ih =>
    have h1 := h (j + 1) hj (by omega)
    simp only [Nat.add_sub_cancel] at h1
    by_cases e : i = j
    · subst e; exact h1
    · exact (ih (by omega) (by omega)).trans h1
theorem good_all {ls : List SetM} {k : Nat} (h : GoodTo ls k) (hk : ls.length ≤ k) : (∀ x ∈ ls, SetOkM x) ∧ Asc ls := by
  refine ⟨fun x hx => ?_, asc_of_adj fun j hj h0 => (h j hj (by omega)).2 h0⟩
  obtain ⟨i, hi, rfl⟩ := List.mem_iff_getElem.1 hx
  exact (h i hi (by omega)).1
theorem bad_set {ls : List SetM} {k : Nat} (hk : k < ls.length) (h : ¬ SetOkM ls[k]) : decide (BookOkM ls) = false :=
  decide_eq_false fun c => h (c.2.1 _ (List.getElem_mem hk))
theorem bad_asc {ls : List SetM} {k : Nat} (hk : k < ls.length) (h0 : 0 < k) (h : ¬ Lt (ls[k - 1]'(by omega)).name ls[k].name) : decide (BookOkM ls) = false :=
  decide_eq_false fun c => h ((List.pairwise_iff_getElem.1 c.2.2.1) (k - 1) k (by omega) hk (by omega))
theorem bad_len {ls : List SetM} (h : 6 < ls.length) : decide (BookOkM ls) = false := decide_eq_false fun c => by have := c.1; omega
theorem bad_root {ls : List SetM} {k : Nat} (hk : k < ls.length) (h : rootsM ls ls.length ls[k] = false) : decide (BookOkM ls) = false :=
  decide_eq_false fun c => by have := c.2.2.2 _ (List.getElem_mem hk); rw [h] at this; cases this
theorem good_book {ls : List SetM} (hl : ls.length ≤ 6) (h : GoodTo ls ls.length) (hr : ∀ (j : Nat) (h : j < ls.length), rootsM ls ls.length ls[j] = true) : decide (BookOkM ls) = true := by
  obtain ⟨h1, h2⟩ := good_all h (Nat.le_refl _)
  refine decide_eq_true ⟨hl, h1, h2, fun x hx => ?_⟩
  obtain ⟨i, hi, rfl⟩ := List.mem_iff_getElem.1 hx
  exact hr i hi
theorem good_succ {ls : List SetM} {k : Nat} (h : GoodTo ls k) (hk : k < ls.length) (h1 : SetOkM ls[k]) (h2 : ∀ (_ : 0 < k), Lt (ls[k - 1]'(by omega)).name ls[k].name) : GoodTo ls (k + 1) := by
  intro j hj hjk
  rcases Nat.lt_succ_iff_lt_or_eq.1 hjk with h3 | rfl
  · exact h j hj h3
  · exact ⟨h1, h2⟩
theorem leq_iff {a b : ByteArray} : (Op.bytesLess a.toList b.toList || a.toList == b.toList) = !decide (Lt b a) := by
  by_cases h : Lt b a
  · rw [decide_eq_true h]
    have h1 : Op.bytesLess a.toList b.toList = false := by
      cases h2 : Op.bytesLess a.toList b.toList with
      | false => rfl
      | true => exact absurd (h.trans h2) (Lt.irr _)
    have h2 : (a.toList == b.toList) = false := beq_eq_false_iff_ne.2 fun e => h.ne (toList_inj e).symm
    rw [h1, h2]; rfl
  · rw [decide_eq_false h]
    by_cases h1 : Lt a b
    · have : Op.bytesLess a.toList b.toList = true := h1
      rw [this]; rfl
    · rw [Lt.total h1 h]; simp

theorem BookName_is (s : ByteArray) (r : Bool) (w : World) (hs : s.size ≤ 1048576) (hr : decide (NameOk s) = r) :
    Calls Tryz.prog 101 #[.string s] w fun e w' => e = .returned (.bool r) ∧ w' = w := hr ▸ BookName_any s w (by unfold maxLen; omega)

set_option maxHeartbeats 4000000 in
theorem BookOk_any (v : Value) (ls : List SetM) (w : World) (h : BookR w v ls) (hs : BookShort ls) :
    Calls Tryz.prog 56 #[.agg #[v]] w fun e w' => e = .returned (.bool (decide (BookOkM ls))) ∧ Below w.heap.size w w' := by
  have hnot : ∀ (x : Bool) (w : World), (Op.unary .not (.bool x)).run Tryz.prog w = .ok (.bool (!x)) w := fun _ _ => rfl
  obtain ⟨ok, HOK⟩ : ∃ ok, Hid (decide (BookOkM ls) = ok) := ⟨_, Lib.hid rfl⟩
  rw [HOK.out]
  have HS := Lib.hid hs
  have hb0 := Below.new1 (w := w) (.cells #[v] 94)
  have XB := Lib.hid (bbox_new h 94)
  have HW := Lib.hid hb0
  clear hs hb0
  obtain ⟨A, c, rfl⟩ := h.form
  clear h
  obtain ⟨n, HL⟩ : ∃ n, Hid (ls.length = n) := ⟨_, Lib.hid rfl⟩
  have hn := HS.out.n
  rw [HL.out] at XB HW hn ⊢
  by_cases hbig : 6 < n
  · have HF := Lib.hid (HOK.out.symm.trans (bad_len (by rw [HL.out]; exact hbig)))
    go_enter Tryz.func56, Tryz.ntmps56
    go_wp2
    go_ret
    exact ⟨ret_boolB HF.out.symm, HW.out⟩
  go_enter Tryz.func56, Tryz.ntmps56
  go_wp2
  generalize w.alloc (.cells #[.slice A n c] 94) = W at XB HW
  go_loopw [3, 4, 5] (fun i _ _ wr => ∃ (k : Nat), k ≤ n ∧ i = .int .i64 k ∧ Hid (BBox wr w.heap.size w.heap.size (.slice A n c) ls) ∧ Hid (Below w.heap.size w wr) ∧ Hid (GoodTo ls k)) (fun i _ _ _ => n - (intOf i).toNat)
  case atStart => exact ⟨0, Nat.zero_le _, rfl, XB, HW, Lib.hid (fun j _ h => absurd h (Nat.not_lt_zero _))⟩
  case round =>
    obtain ⟨k, hk, rfl, XB1, HW1, HG⟩ := hrel
    clear XB HW
    have x0 := XB1.out.cell
    by_cases hlt : k < n
    · have hl0 : k < ls.length := by rw [HL.out]; exact hlt
      have hcells := XB1.out.reads.r
      rw [HL.out] at hcells
      obtain ⟨b, off, c', hv, hnc, hcm, hcell⟩ := hcells.form (by omega)
      injection hv with e1 e2 e3
      subst e1 e3
      clear e2 hcells
      unfold maxLen at hcm
      have hbl : b < wr.heap.size := XB1.out.reads.l b rfl
      obtain ⟨g0, g1, g2, g3, g4, g5, g6, g7, g8, g9, g10⟩ := (set_read hcell k hl0).all
      have hk1 : (k : Int) < (n : Int) := by omega
      obtain ⟨hzn, -, -⟩ := HS.out.z ls[k] (List.getElem_mem hl0)
      have HBS := Lib.hid (fun h => HOK.out.symm.trans (bad_set hl0 h))
      have HGS := Lib.hid (fun h1 h2 => good_succ HG.out hl0 h1 h2)
      obtain ⟨p, HP, HBA⟩ : ∃ p : SetM, Hid (∀ _ : 0 < k, SetAt wr b (off + (k - 1) * 11) p) ∧ Hid ((∀ _ : 0 < k, ¬ Lt p.name ls[k].name → ok = false) ∧ (∀ _ : 0 < k, Lt p.name ls[k].name → Lt (ls[k - 1]'(by omega)).name ls[k].name)) := by
        by_cases h : 0 < k
        · exact ⟨ls[k - 1]'(by omega), Lib.hid (fun _ => set_read hcell (k - 1) (by omega)), Lib.hid ⟨fun _ hh => HOK.out.symm.trans (bad_asc hl0 h hh), fun _ hh => hh⟩⟩
        · exact ⟨ls[k], Lib.hid (fun h' => absurd h' h), Lib.hid ⟨fun h' => absurd h' h, fun h' => absurd h' h⟩⟩
      have HGN := Lib.hid (show SetOkM ls[k] → (∀ _ : 0 < k, Lt p.name ls[k].name) → GoodTo ls (k + 1) from fun h1 h2 => HGS.out h1 fun h0 => HBA.out.2 h0 (h2 h0))
      have HBA1 := Lib.hid HBA.out.1
      clear HGS HBA
      generalize ls[k] = y at g0 g1 g2 g3 g4 g5 g6 g7 g8 g9 g10 hzn HBS HBA1 HGN
      clear hcell hl0
      go_wp2_with fail
      have hnw := Below.new1 (w := wr) (.cells #[.string y.name, .int .i64 y.kind, .string y.frm, .string y.b0, .string y.b1, .string y.b2, .string y.b3, .string y.b4, .string y.b5, .string y.b6, .string y.b7] 140)
      have XB2 := Lib.hid (XB1.out.below hnw)
      have HXS := Lib.hid (show Box _ wr.heap.size (kc y) from box_new wr #[.string y.name, .int .i64 y.kind, .string y.frm, .string y.b0, .string y.b1, .string y.b2, .string y.b3, .string y.b4, .string y.b5, .string y.b6, .string y.b7] 140)
      have HP2 := Lib.hid (fun h0 => (HP.out h0).below hnw hbl)
      have HW2 := Lib.hid (HW1.out.trans (hnw.mono HW1.out.size))
      clear XB1 HP HW1 hnw x0 g0 g1 g2 g3 g4 g5 g6 g7 g8 g9 g10 hbl
      generalize wr.alloc (.cells #[.string y.name, .int .i64 y.kind, .string y.frm, .string y.b0, .string y.b1, .string y.b2, .string y.b3, .string y.b4, .string y.b5, .string y.b6, .string y.b7] 140) = W1 at XB2 HXS HP2 HW2
      have x0 := XB2.out.cell
      have s0 := HXS.out.cell 0 rfl
      have s1 := HXS.out.cell 1 rfl
      by_cases hnm : NameOk y.name
      case neg =>
        have hnr := decide_eq_false hnm
        have HF := Lib.hid (HBS.out fun c => hnm c.1)
        go_quiet ((go_at_call 101; exact Calls.quiet_of_same (BookName_is _ _ _ hzn hnr)))
        go_wp2
        go_ret
        exact ⟨ret_boolB HF.out.symm, below_drewN HW2.out _⟩
      case pos =>
      have hnr := decide_eq_true hnm
      have HNM := Lib.hid hnm
      clear hnm
      have HBS2 := Lib.hid (show ¬ (y.kind = 1 ∨ y.kind = 2) → ok = false from fun hh => HBS.out fun c => hh c.2.1)
      have HBS3 := Lib.hid (show ¬ (∀ s ∈ y.bs, s.size ≤ 24) → ok = false from fun hh => HBS.out fun c => hh c.2.2)
      clear HBS
      by_cases hk0 : k = 0
      · subst hk0
        have HGN2 := Lib.hid (fun h1 h2 => HGN.out ⟨HNM.out, h1, h2⟩ (fun h0 => absurd h0 (Nat.lt_irrefl _)))
        have hd0 : decide ((0 : Int) < 0) = false := rfl
        clear HGN HP2 HBA1
        by_cases hkd : y.kind = 1 ∨ y.kind = 2
        case neg =>
          have HF := Lib.hid (HBS2.out hkd)
          by_cases hk3 : y.kind < 1
          · go_quiet ((go_at_call 101; exact Calls.quiet_of_same (BookName_is _ _ _ hzn hnr)))
            go_wp2
            go_ret
            exact ⟨ret_boolB HF.out.symm, below_drewN HW2.out _⟩
          · have hk4 : y.kind > 2 := by omega
            have hk3z : decide (y.kind < 1) = false := decide_eq_false hk3
            go_quiet ((go_at_call 101; exact Calls.quiet_of_same (BookName_is _ _ _ hzn hnr)))
            go_wp2
            go_ret
            exact ⟨ret_boolB HF.out.symm, below_drewN HW2.out _⟩
        case pos =>
        have hk3z : decide (y.kind < 1) = false := decide_eq_false (by omega)
        have hk4z : decide (y.kind > 2) = false := decide_eq_false (by omega)
        have HGN3 := Lib.hid (HGN2.out hkd)
        clear HGN2 hkd HBS2
        go_quiet ((go_at_call 101; exact Calls.quiet_of_same (BookName_is _ _ _ hzn hnr)))
        go_wp2
        go_loop [5] (fun i => ∃ j : Nat, j ≤ 8 ∧ i = .int .i64 j ∧ Hid (∀ (i : Nat) (h : i < y.bs.length), i < j → y.bs[i].size ≤ 24)) (fun i => 8 - (intOf i).toNat)
        case atStart => exact ⟨0, Nat.zero_le _, rfl, Lib.hid (fun j _ h => absurd h (Nat.not_lt_zero _))⟩
        case round =>
          obtain ⟨j, hj, rfl, HJ⟩ := hrel
          by_cases hj8 : j < 8
          · have hjl : j < y.bs.length := hj8
            have sj : W1.cell? ⟨wr.heap.size, 3 + j, none⟩ = some (.string y.bs[j]) := by have := (setAt_of_box HXS.out).blk j hj8; rwa [Nat.zero_add] at this
            have HBJ := Lib.hid (show ¬ y.bs[j].size ≤ 24 → ok = false from fun hh => HBS3.out fun c => hh (c _ (List.getElem_mem hjl)))
            have HJ2 := Lib.hid (show y.bs[j].size ≤ 24 → ∀ (i : Nat) (h : i < y.bs.length), i < j + 1 → y.bs[i].size ≤ 24 from fun hh i h hi => by
              rcases Nat.lt_succ_iff_lt_or_eq.1 hi with h3 | rfl
              · exact HJ.out i h h3
              · exact hh)
            generalize y.bs[j] = t at sj HBJ HJ2
            by_cases ht : t.size ≤ 24
            · have HJ3 := Lib.hid (HJ2.out ht)
              have htz : ¬ (t.size : Int) > 24 := by omega
              clear HJ HJ2 HBJ
              go_wp2
              go_round
              case rel => exact ⟨j + 1, by omega, by go_num, HJ3⟩
              case measure => simp [intOf]; omega
            · have HF := Lib.hid (HBJ.out ht)
              have htz : (t.size : Int) > 24 := by omega
              clear HJ HJ2 HBJ
              go_wp2
              go_ret
              exact ⟨ret_boolB HF.out.symm, below_drewN HW2.out _⟩
          · have HG2 := Lib.hid (HGN3.out fun s hs => by
              obtain ⟨i, hi, rfl⟩ := List.mem_iff_getElem.1 hs
              exact HJ.out i hi (by have : y.bs.length = 8 := rfl; omega))
            clear HJ
            go_wp2
            go_roundw
            case rel => exact ⟨_, by omega, by go_num, Lib.hid (XB2.out.below (below_drewN (Below.refl _ _) _)), Lib.hid (below_drewN HW2.out _), HG2⟩
            case measure => simp [intOf]; omega
      · obtain ⟨k, rfl⟩ : ∃ k', k = k' + 1 := ⟨k - 1, by omega⟩
        have p0 := (HP2.out (by omega)).all.1
        rw [Nat.add_sub_cancel] at p0
        have hkk : ((k + 1 : Nat) : Int) > 0 := by omega
        have hlq := leq_iff (a := y.name) (b := p.name)
        have hki : (k : Int) < (n : Int) := by omega
        have hwr : IntKind.i64.wrap (k : Int) = k := IntWalk.i64_in _ (by omega)
        by_cases hpy : Lt p.name y.name
        case neg =>
          have HF := Lib.hid (HBA1.out (by omega) hpy)
          simp only [decide_eq_false hpy, Bool.not_false] at hlq
          clear HGN HP2 HBA1 hpy
          go_quiet ((go_at_call 101; exact Calls.quiet_of_same (BookName_is _ _ _ hzn hnr)))
          go_wp2
          go_ret
          exact ⟨ret_boolB HF.out.symm, below_drewN HW2.out _⟩
        case pos =>
        simp only [decide_eq_true hpy, Bool.not_true] at hlq
        have HGN2 := Lib.hid (fun h1 h2 => HGN.out ⟨HNM.out, h1, h2⟩ (fun _ => hpy))
        clear HGN HP2 HBA1 hpy
        by_cases hkd : y.kind = 1 ∨ y.kind = 2
        case neg =>
          have HF := Lib.hid (HBS2.out hkd)
          by_cases hk3 : y.kind < 1
          · go_quiet ((go_at_call 101; exact Calls.quiet_of_same (BookName_is _ _ _ hzn hnr)))
            go_wp2
            go_ret
            exact ⟨ret_boolB HF.out.symm, below_drewN HW2.out _⟩
          · have hk4 : y.kind > 2 := by omega
            have hk3z : decide (y.kind < 1) = false := decide_eq_false hk3
            go_quiet ((go_at_call 101; exact Calls.quiet_of_same (BookName_is _ _ _ hzn hnr)))
            go_wp2
            go_ret
            exact ⟨ret_boolB HF.out.symm, below_drewN HW2.out _⟩
        case pos =>
        have hk3z : decide (y.kind < 1) = false := decide_eq_false (by omega)
        have hk4z : decide (y.kind > 2) = false := decide_eq_false (by omega)
        have HGN3 := Lib.hid (HGN2.out hkd)
        clear HGN2 hkd HBS2
        go_quiet ((go_at_call 101; exact Calls.quiet_of_same (BookName_is _ _ _ hzn hnr)))
        go_wp2
        go_loop [5] (fun i => ∃ j : Nat, j ≤ 8 ∧ i = .int .i64 j ∧ Hid (∀ (i : Nat) (h : i < y.bs.length), i < j → y.bs[i].size ≤ 24)) (fun i => 8 - (intOf i).toNat)
        case atStart => exact ⟨0, Nat.zero_le _, rfl, Lib.hid (fun j _ h => absurd h (Nat.not_lt_zero _))⟩
        case round =>
          obtain ⟨j, hj, rfl, HJ⟩ := hrel
          by_cases hj8 : j < 8
          · have hjl : j < y.bs.length := hj8
            have sj : W1.cell? ⟨wr.heap.size, 3 + j, none⟩ = some (.string y.bs[j]) := by have := (setAt_of_box HXS.out).blk j hj8; rwa [Nat.zero_add] at this
            have HBJ := Lib.hid (show ¬ y.bs[j].size ≤ 24 → ok = false from fun hh => HBS3.out fun c => hh (c _ (List.getElem_mem hjl)))
            have HJ2 := Lib.hid (show y.bs[j].size ≤ 24 → ∀ (i : Nat) (h : i < y.bs.length), i < j + 1 → y.bs[i].size ≤ 24 from fun hh i h hi => by
              rcases Nat.lt_succ_iff_lt_or_eq.1 hi with h3 | rfl
              · exact HJ.out i h h3
              · exact hh)
            generalize y.bs[j] = t at sj HBJ HJ2
            by_cases ht : t.size ≤ 24
            · have HJ3 := Lib.hid (HJ2.out ht)
              have htz : ¬ (t.size : Int) > 24 := by omega
              clear HJ HJ2 HBJ
              go_wp2
              go_round
              case rel => exact ⟨j + 1, by omega, by go_num, HJ3⟩
              case measure => simp [intOf]; omega
            · have HF := Lib.hid (HBJ.out ht)
              have htz : (t.size : Int) > 24 := by omega
              clear HJ HJ2 HBJ
              go_wp2
              go_ret
              exact ⟨ret_boolB HF.out.symm, below_drewN HW2.out _⟩
          · have HG2 := Lib.hid (HGN3.out fun s hs => by
              obtain ⟨i, hi, rfl⟩ := List.mem_iff_getElem.1 hs
              exact HJ.out i hi (by have : y.bs.length = 8 := rfl; omega))
            clear HJ
            go_wp2
            go_roundw
            case rel => exact ⟨_, by omega, by go_num, Lib.hid (XB2.out.below (below_drewN (Below.refl _ _) _)), Lib.hid (below_drewN HW2.out _), HG2⟩
            case measure => simp [intOf]; omega
    · have HG2 := Lib.hid (show GoodTo ls ls.length from by rw [HL.out, show n = k by omega]; exact HG.out)
      obtain ⟨HSO, HAS⟩ : Hid (∀ x ∈ ls, SetOkM x) ∧ Hid (Asc ls) := ⟨Lib.hid (good_all HG2.out (Nat.le_refl _)).1, Lib.hid (good_all HG2.out (Nat.le_refl _)).2⟩
      clear HG
      go_wp2
      go_loopw [6] (fun i wr => ∃ (k : Nat), k ≤ n ∧ i = .int .i64 k ∧ Hid (BBox wr w.heap.size w.heap.size (.slice A n c) ls) ∧ Hid (Below w.heap.size w wr) ∧ Hid (∀ (j : Nat) (h : j < ls.length), j < k → rootsM ls ls.length ls[j] = true)) (fun i _ => n - (intOf i).toNat)
      case atStart => exact ⟨0, Nat.zero_le _, rfl, XB1, HW1, Lib.hid (fun j _ h => absurd h (Nat.not_lt_zero _))⟩
      case round =>
        clear hk hlt x0
        obtain ⟨m, hm, rfl, XB2, HW2, HK⟩ := hrel
        clear XB1 HW1
        have x0 := XB2.out.cell
        by_cases hlt : m < n
        · have hl0 : m < ls.length := by rw [HL.out]; exact hlt
          have hcells := XB2.out.reads.r
          rw [HL.out] at hcells
          obtain ⟨b, off, c', hv, hnc, hcm, hcell⟩ := hcells.form (by omega)
          injection hv with e1 e2 e3
          subst e1 e3
          clear e2 hcells
          unfold maxLen at hcm
          obtain ⟨g0, g1, g2, g3, g4, g5, g6, g7, g8, g9, g10⟩ := (set_read hcell m hl0).all
          have hk1 : (m : Int) < (n : Int) := by omega
          have hblw : b < w.heap.size := XB2.out.low b rfl
          have hbx := XB2.out.box.lt
          have hbr : b < wr.heap.size := by omega
          have RD := Lib.hid XB2.out.reads.drew
          have HCT := Lib.hid (fun w' (hR : BookR w' (.slice (some ⟨b, off, none⟩) n c) ls) => l4Roots_any _ ls ls[m] w' hR (by rw [HL.out]; omega) (fun z hz => And.left (HSO.out z hz)) HAS.out)
          have HMEM := Lib.hid (roots_more ls (List.getElem_mem hl0))
          have HRB := Lib.hid (show rootsM ls ls.length ls[m] = false → ok = false from fun hh => HOK.out.symm.trans (bad_root hl0 hh))
          have HK1 := Lib.hid (show rootsM ls ls.length ls[m] = true → ∀ (j : Nat) (h : j < ls.length), j < m + 1 → rootsM ls ls.length ls[j] = true from fun hh j h hj => by
            rcases Nat.lt_succ_iff_lt_or_eq.1 hj with h3 | rfl
            · exact HK.out j h h3
            · exact hh)
          generalize ls[m] = y at g0 g1 g2 g3 g4 g5 g6 g7 g8 g9 g10 HMEM HRB HK1 HCT
          clear hcell hl0 HK
          obtain ⟨r, HR⟩ : ∃ r, Hid (rootsM ls ls.length y = r) := ⟨_, Lib.hid rfl⟩
          rw [HMEM.out, HR.out] at HCT
          go_wp2_with fail
          go_region_held3 (fun w' => w'.cell? ⟨w.heap.size, 0, none⟩ = some (.slice (some ⟨b, off, none⟩) n c) ∧ w'.cell? ⟨b, off + m * 11, none⟩ = some (.string y.name) ∧ w'.cell? ⟨b, off + m * 11 + 1, none⟩ = some (.int .i64 y.kind) ∧ w'.cell? ⟨b, off + m * 11 + 2, none⟩ = some (.string y.frm) ∧ w'.cell? ⟨b, off + m * 11 + 3, none⟩ = some (.string y.b0) ∧ w'.cell? ⟨b, off + m * 11 + 4, none⟩ = some (.string y.b1) ∧ w'.cell? ⟨b, off + m * 11 + 5, none⟩ = some (.string y.b2) ∧ w'.cell? ⟨b, off + m * 11 + 6, none⟩ = some (.string y.b3) ∧ w'.cell? ⟨b, off + m * 11 + 7, none⟩ = some (.string y.b4) ∧ w'.cell? ⟨b, off + m * 11 + 8, none⟩ = some (.string y.b5) ∧ w'.cell? ⟨b, off + m * 11 + 9, none⟩ = some (.string y.b6) ∧ w'.cell? ⟨b, off + m * 11 + 10, none⟩ = some (.string y.b7))
            (first
              | go_keep
              | (go_split_ands
                 refine ⟨?_, ?_, ?_, ?_, ?_, ?_, ?_, ?_, ?_, ?_, ?_, ?_⟩
                 all_goals (rw [hb2.cell (by simp <;> omega)]; assumption)))
            ((go_at_call 102; ((with_reducible refine (HCT.out _ RD.out).mono ?_); rintro e w2 ⟨rfl, hb2⟩)))
          all_goals
            have hb3 := (below_drewB wr).trans (show Below wr.heap.size wr.drew w2 from hb2)
            have XB3 := Lib.hid (XB2.out.below hb3)
            have HW3 := Lib.hid (HW2.out.trans (hb3.mono HW2.out.size))
            clear hb2 hb3 XB2 HW2 RD x0 g0 g1 g2 g3 g4 g5 g6 g7 g8 g9 g10
            cases r with
            | true =>
              have HK2 := Lib.hid (HK1.out HR.out)
              go_wp2
              go_roundw
              case rel => exact ⟨m + 1, by omega, by go_num, XB3, HW3, HK2⟩
              case measure => simp [intOf]; omega
            | false =>
              have HF := Lib.hid (HRB.out HR.out)
              go_wp2
              go_ret
              exact ⟨ret_boolB HF.out.symm, HW3.out⟩
        · have HF := Lib.hid (HOK.out.symm.trans (good_book (by rw [HL.out]; omega) HG2.out fun j h => HK.out j h (by have := HL.out; omega)))
          go_wp2
          go_ret
          exact ⟨ret_boolB HF.out.symm, HW2.out⟩
end Go.Proofs.YtobjgdnmlibofaaGreat

/-
  impl's sets by name: a map from names to boxes that hold a set each; bookOpen, and a set by itself.
-/
set_option maxRecDepth 100000
namespace Go.Proofs.YtobjgdnmlibofaaGreat
open Go.ChangeShapes Go.WideShapes Go.ChangeAt Go.RowKit Go.Proofs.Palim Go.Maps

theorem all8 (p : Nat → Prop) (h0 : p 0) (h1 : p 1) (h2 : p 2) (h3 : p 3) (h4 : p 4) (h5 : p 5) (h6 : p 6) (h7 : p 7) (k : Nat) (h : k < 8) : p k := by
  match k, h with
  | 0, _ => exact h0
  | 1, _ => exact h1
  | 2, _ => exact h2
  | 3, _ => exact h3
  | 4, _ => exact h4
  | 5, _ => exact h5
  | 6, _ => exact h6
  | 7, _ => exact h7
theorem idx8 (x : SetM) (k : Nat) (h : k < 8) (w : World) : (Instr.index 138 (.agg #[.string x.b0, .string x.b1, .string x.b2, .string x.b3, .string x.b4, .string x.b5, .string x.b6, .string x.b7]) (.int .i64 (k : Int))).run Tryz.prog w = .ok (.string (x.bs[k]'h)) w := by
  have h1 := all8 (fun k => (Instr.index 138 (.agg #[.string x.b0, .string x.b1, .string x.b2, .string x.b3, .string x.b4, .string x.b5, .string x.b6, .string x.b7]) (.int .i64 (k : Int))).run Tryz.prog w = .ok (.string (x.bs.getD k ⟨#[]⟩)) w)
    (by kernel_rfl) (by kernel_rfl) (by kernel_rfl) (by kernel_rfl) (by kernel_rfl) (by kernel_rfl) (by kernel_rfl) (by kernel_rfl) k h
  have e : x.bs.getD k ⟨#[]⟩ = x.bs[k]'h := by simp [List.getD, List.getElem?_eq_getElem (show k < x.bs.length from h)]; rfl
  rw [e] at h1
  exact h1

set_option maxHeartbeats 2000000 in
theorem bookSetOk_any (x : SetM) (w : World) (hz : x.name.size ≤ 1048576 ∧ x.frm.size ≤ 1048576 ∧ ∀ s ∈ x.bs, s.size ≤ 1048576) :
    Calls Tryz.prog 141 #[.agg #[.string x.name, .int .i64 x.kind, .string x.frm, .string x.b0, .string x.b1, .string x.b2, .string x.b3, .string x.b4, .string x.b5, .string x.b6, .string x.b7]] w fun e w' => e = .returned (.bool (decide (SetOkM x))) ∧ Below w.heap.size w w' := by
  have hnot : ∀ (x : Bool) (w : World), (Op.unary .not (.bool x)).run Tryz.prog w = .ok (.bool (!x)) w := fun _ _ => rfl
  obtain ⟨ok, HOK⟩ : ∃ ok, Hid (decide (SetOkM x) = ok) := ⟨_, Lib.hid rfl⟩
  rw [HOK.out]
  have hzn : x.name.size ≤ maxLen := by unfold maxLen; have := hz.1; omega
  have HZ := Lib.hid hz
  have HW := Lib.hid (Below.new1 (w := w) (.cells #[.string x.name, .int .i64 x.kind, .string x.frm, .string x.b0, .string x.b1, .string x.b2, .string x.b3, .string x.b4, .string x.b5, .string x.b6, .string x.b7] 140))
  clear hz
  by_cases hnm : NameOk x.name
  case neg =>
    have hnr := decide_eq_false hnm
    have HF := Lib.hid (HOK.out.symm.trans (decide_eq_false fun c => hnm c.1))
    go_enter Tryz.func141, Tryz.ntmps141
    go_wp2_with fail
    refine (ImplBookName_any x.name _ hzn).mono ?_
    rintro e w1 ⟨rfl, rfl⟩
    rw [hnr]
    go_wp2
    go_ret
    exact ⟨ret_boolB HF.out.symm, HW.out⟩
  case pos =>
  have hnr := decide_eq_true hnm
  by_cases hkd : x.kind = 1 ∨ x.kind = 2
  case neg =>
    have HF := Lib.hid (HOK.out.symm.trans (decide_eq_false fun c => hkd c.2.1))
    have hk1 : (x.kind != 1) = true := by simp; omega
    have hk2 : (x.kind != 2) = true := by simp; omega
    go_enter Tryz.func141, Tryz.ntmps141
    go_wp2_with fail
    refine (ImplBookName_any x.name _ hzn).mono ?_
    rintro e w1 ⟨rfl, rfl⟩
    rw [hnr]
    go_wp2
    go_ret
    exact ⟨ret_boolB HF.out.symm, HW.out⟩
  case pos =>
  have HGO := Lib.hid (show (∀ s ∈ x.bs, s.size ≤ 24) → ok = true from fun h => HOK.out.symm.trans (decide_eq_true ⟨hnm, hkd, h⟩))
  have HBA := Lib.hid (show ¬ (∀ s ∈ x.bs, s.size ≤ 24) → ok = false from fun h => HOK.out.symm.trans (decide_eq_false fun c => h c.2.2))
  have hk12 : ((x.kind != 1) = false ∧ True) ∨ ((x.kind != 1) = true ∧ (x.kind != 2) = false) := by
    rcases hkd with h | h
    · exact Or.inl ⟨by simp [h], trivial⟩
    · exact Or.inr ⟨by simp [h], by simp [h]⟩
  clear hkd hnm HOK
  rcases hk12 with ⟨hk1, _⟩ | ⟨hk1, hk2⟩
  all_goals
    go_enter Tryz.func141, Tryz.ntmps141
    go_wp2_with fail
    refine (ImplBookName_any x.name _ hzn).mono ?_
    rintro e w1 ⟨rfl, rfl⟩
    rw [hnr]
    go_wp2
    generalize w.alloc (.cells #[.string x.name, .int .i64 x.kind, .string x.frm, .string x.b0, .string x.b1, .string x.b2, .string x.b3, .string x.b4, .string x.b5, .string x.b6, .string x.b7] 140) = W at HW
    go_loop [4, 21] (fun _ i => ∃ j : Nat, j ≤ 8 ∧ i = .int .i64 j ∧ Hid (∀ (i : Nat) (h : i < x.bs.length), i < j → x.bs[i].size ≤ 24)) (fun _ i => 8 - (intOf i).toNat)
    case atStart => exact ⟨0, Nat.zero_le _, rfl, Lib.hid (fun j _ h => absurd h (Nat.not_lt_zero _))⟩
    case round =>
      obtain ⟨j, hj, rfl, HJ⟩ := hrel
      by_cases hj8 : j < 8
      · have hjl : j < x.bs.length := hj8
        have hix := idx8 x j hj8 W
        have hzt := HZ.out.2.2 _ (List.getElem_mem hjl)
        have HBJ := Lib.hid (show ¬ x.bs[j].size ≤ 24 → ok = false from fun hh => HBA.out fun c => hh (c _ (List.getElem_mem hjl)))
        have HJ2 := Lib.hid (show x.bs[j].size ≤ 24 → ∀ (i : Nat) (h : i < x.bs.length), i < j + 1 → x.bs[i].size ≤ 24 from fun hh i h hi => by
          rcases Nat.lt_succ_iff_lt_or_eq.1 hi with h3 | rfl
          · exact HJ.out i h h3
          · exact hh)
        generalize x.bs[j] = t at hix HBJ HJ2 hzt
        by_cases ht : t.size ≤ 24
        · have HJ3 := Lib.hid (HJ2.out ht)
          have htz : ¬ (t.size : Int) > 24 := by omega
          clear HJ HJ2 HBJ
          go_wp2
          go_round
          case rel => exact ⟨j + 1, by omega, by go_num, HJ3⟩
          case measure => simp [intOf]; omega
        · have HF := Lib.hid (HBJ.out ht)
          have htz : (t.size : Int) > 24 := by omega
          clear HJ HJ2 HBJ
          go_wp2
          go_ret
          exact ⟨ret_boolB HF.out.symm, HW.out⟩
      · have HG2 := Lib.hid (HGO.out fun s hs => by
          obtain ⟨i, hi, rfl⟩ := List.mem_iff_getElem.1 hs
          exact HJ.out i hi (by have : x.bs.length = 8 := rfl; omega))
        clear HJ
        go_wp2
        go_ret
        exact ⟨ret_boolB HG2.out.symm, HW.out⟩

/-- How a pointer to a box reads; and nil. -/
def ptrE : Value → Option (DataW Unit × List MemPlace)
  | .pointer none => some (.lit (.bool false), [])
  | .pointer (some ⟨b, 0, none⟩) => some (.lit (.int .i64 (b : Int)), [])
  | _ => none
def kL (s : ByteArray) : Lit := .string s.data.toList
def pD (b : Nat) : DataW Unit := .lit (.int .i64 (b : Int))
def nD : DataW Unit := .lit (.bool false)
theorem ptrE_inv {v : Value} {b : Nat} {ps : List MemPlace} (h : ptrE v = some (pD b, ps)) : v = .pointer (some ⟨b, 0, none⟩) := by
  unfold ptrE at h
  split at h
  · simp [pD] at h
  · simp only [pD, Option.some.injEq, Prod.mk.injEq, DataW.lit.injEq, Lit.int.injEq, true_and] at h
    have : _ = b := Int.ofNat.inj h.1
    rw [this]
  · cases h
theorem ptrE_nil {v : Value} {ps : List MemPlace} (h : ptrE v = some (nD, ps)) : v = .pointer none := by
  unfold ptrE at h
  split at h
  · rfl
  · simp [nD] at h
  · cases h
theorem kL_inj {a b : ByteArray} (h : kL a = kL b) : a = b := by
  unfold kL at h
  injection h with h
  cases a; cases b
  simp only [ByteArray.mk.injEq]
  exact Array.toList_inj.1 h
theorem kL_key (s : ByteArray) : WideAt.IsKeyLit (kL s) := by simp [kL, WideAt.IsKeyLit]

/-- Where a name leads. -/
def lookB (L : List (ByteArray × Nat)) (s : ByteArray) : Option Nat := (L.find? (fun p => decide (p.1 = s))).map (·.2)
theorem look_app_new {L : List (ByteArray × Nat)} {s : ByteArray} {b : Nat} (h : lookB L s = none) (t : ByteArray) : lookB (L ++ [(s, b)]) t = if t = s then some b else lookB L t := by
  unfold lookB at h ⊢
  rw [List.find?_append]
  by_cases e : t = s
  · subst e
    have h' : L.find? (fun p => decide (p.1 = t)) = none := by simpa using h
    rw [h']; simp
  · rw [if_neg e]
    have : ([(s, b)].find? fun p => decide (p.1 = t)) = none := by
      simp only [List.find?_cons, List.find?_nil]
      rw [decide_eq_false (fun c => e c.symm)]
    rw [this]; simp
/-- The map m leads from each of these names to its block. -/
def MapB (w : World) (m : Nat) (L : List (ByteArray × Nat)) : Prop :=
  ∃ D, w.ownsMap Tryz.prog 9 ptrE m L.length D ∧ Maps.size D = L.length ∧ ∀ s : ByteArray, s.size ≤ maxLen → Maps.has D (kL s) = (lookB L s).isSome ∧ D.atKey (kL s) nD = ((lookB L s).map pD).getD nD

section
variable {w : World} {m : Nat} {L : List (ByteArray × Nat)}
theorem keyB : Keyed Tryz.prog 9 := string_keyed Tryz.underlying9
theorem keyOfB {s : ByteArray} (h : s.size ≤ maxLen) : keyOf Tryz.prog 9 (.string s) = some (kL s) := WideMaps.keyOf_string_mk (P := Tryz.prog) Tryz.underlying9 h
theorem owns_tight {R : Value → Option (DataW Unit × List MemPlace)} {n : Nat} {D : DataW Unit} (h : w.ownsMap Tryz.prog 9 R m n D) : w.ownsMap Tryz.prog 9 R m (Maps.size D) D := by
  obtain ⟨es, clock, hb, F, hs, rfl⟩ := h
  exact ⟨es, clock, hb, F, by simp [Maps.size, length_sorted], rfl⟩
theorem mapB_made (w : World) : MapB (w.alloc (.map #[] 0)) w.heap.size [] :=
  ⟨.map [], World.ownsMap_made w Tryz.prog 9 ptrE, rfl, fun s _ => ⟨rfl, rfl⟩⟩
theorem MapB.lt (h : MapB w m L) : m < w.heap.size := by obtain ⟨D, ho, _⟩ := h; exact ho.lt
theorem MapB.kept {w' : World} (h : MapB w m L) (hk : w'.heap[m]? = w.heap[m]?) : MapB w' m L := by
  obtain ⟨D, ⟨es, clock, hb, rest⟩, h2⟩ := h
  exact ⟨D, ⟨es, clock, hk.trans hb, rest⟩, h2⟩
theorem MapB.below {w' : World} {B : Nat} (h : MapB w m L) (hb : Below B w w') (hB : m < B) : MapB w' m L := h.kept (hb.block m hB)
theorem MapB.notBox {b : Nat} {vs : List Value} (h : MapB w m L) (hx : Box w b vs) : b ≠ m := by
  rintro rfl
  obtain ⟨D, ⟨es, clock, hb, _⟩, _⟩ := h
  obtain ⟨c, e, hc, _⟩ := hx
  rw [hb] at hc
  cases hc
theorem zeroPtr (w : World) : (zeroValue 176).run Tryz.prog w = .ok (.pointer none) w := by kernel_rfl
def lookV (o : Option Nat) : Value := .tuple #[.pointer (o.map fun b => ⟨b, 0, none⟩), .bool o.isSome]
theorem MapB.look (h : MapB w m L) {s : ByteArray} (hs : s.size ≤ maxLen) : (Instr.lookup 169 (.map (some m)) (.string s) true).run Tryz.prog w = .ok (lookV (lookB L s)) w := by
  obtain ⟨D, ho, _, hl⟩ := h
  obtain ⟨v, ps, hrun, hv⟩ := ho.look_ok keyB Tryz.underlying169 (zeroPtr w) (zd := nD) (zp := []) rfl (keyOfB hs)
  obtain ⟨h1, h2⟩ := hl s hs
  rw [hrun, h1]
  rw [h2] at hv
  unfold lookV
  cases hlk : lookB L s with
  | none => rw [hlk] at hv; rw [ptrE_nil hv]; rfl
  | some b => rw [hlk] at hv; rw [ptrE_inv hv]; rfl
theorem MapB.len (h : MapB w m L) (ty : TypeId) : (Builtin.len_ #[169] ty #[.map (some m)]).run Tryz.prog w = .ok (.int .i64 (L.length : Int)) w := by
  obtain ⟨D, ho, hsz, _⟩ := h
  rw [ho.len Tryz.underlying169 ty, hsz]
theorem MapB.put (h : MapB w m L) {s : ByteArray} (hs : s.size ≤ maxLen) (hn : lookB L s = none) (hlen : L.length < 100) (b : Nat) :
    ∃ w', (Instr.mapUpdate 169 (.map (some m)) (.string s) (.pointer (some ⟨b, 0, none⟩))).run Tryz.prog w = .ok () w' ∧ MapB w' m (L ++ [(s, b)]) ∧ w.mapTurned w' m := by
  obtain ⟨D, ho, hsz, hl⟩ := h
  obtain ⟨w', hrun, ho', hturn⟩ := ho.store keyB Tryz.underlying169 (by unfold maxLen; omega) (key := .string s) (val := .pointer (some ⟨b, 0, none⟩)) (d := pD b) (ps := []) (keyOfB hs) rfl
  have hT := ho.tidy keyB
  have hh : Maps.has D (kL s) = false := by rw [(hl s hs).1, hn]; rfl
  have hs2 : Maps.size (D.put (kL s) (pD b)) = (L ++ [(s, b)]).length := by rw [Maps.size_put hT, hh]; simp [hsz]
  refine ⟨w', hrun, ⟨_, hs2 ▸ owns_tight ho', hs2, fun t ht => ?_⟩, hturn⟩
  rw [look_app_new hn]
  by_cases e : t = s
  · subst e
    rw [if_pos rfl, Maps.has_put_same hT.isMap (kL_key t), Maps.atKey_put_same hT.isMap (kL_key t)]
    exact ⟨rfl, rfl⟩
  · rw [if_neg e, Maps.has_put_other (fun c => e (kL_inj c)), Maps.atKey_put_other (fun c => e (kL_inj c))]
    exact hl t ht
end
theorem below_mapTurned {B : Nat} {w0 w w' : World} {m : Nat} (h : Below B w0 w) (ht : w.mapTurned w' m) (hm : B ≤ m) : Below B w0 w' :=
  h.grown ht.grown (Nat.le_trans hm (by obtain ⟨es, c, _, _, hb, _⟩ := ht; exact Nat.le_of_lt (Array.getElem?_eq_some_iff.1 hb).1)) (fun j hj => by cases hj; exact hm)
theorem box_mapTurned {w w' : World} {m b : Nat} {vs : List Value} (h : Box w b vs) (ht : w.mapTurned w' m) (hb : b ≠ m) : Box w' b vs := h.kept (ht.grown.block b h.lt (fun e => hb (Option.some.inj e)))

/-- The sets by name: each in a box of its own. -/
structure SetsB (w : World) (base m : Nat) (Lb : List (Nat × SetM)) : Prop where
  map : MapB w m (Lb.map fun p => (p.2.name, p.1))
  hm : base ≤ m
  box : ∀ p ∈ Lb, Box w p.1 (kc p.2) ∧ base ≤ p.1
  names : Lb.Pairwise (fun p q => p.2.name ≠ q.2.name)
  apart : Lb.Pairwise (fun p q => p.1 ≠ q.1)
theorem SetsB.below {w w' : World} {base m : Nat} {Lb : List (Nat × SetM)} (h : SetsB w base m Lb) (hb : Below w.heap.size w w') : SetsB w' base m Lb :=
  ⟨h.map.below hb h.map.lt, h.hm, fun p hp => ⟨(h.box p hp).1.below hb (h.box p hp).1.lt, (h.box p hp).2⟩, h.names, h.apart⟩
theorem look_none {Lb : List (Nat × SetM)} {s : ByteArray} (h : ∀ p ∈ Lb, p.2.name ≠ s) : lookB (Lb.map fun p => (p.2.name, p.1)) s = none := by
  unfold lookB
  have : (Lb.map fun p => (p.2.name, p.1)).find? (fun p => decide (p.1 = s)) = none := by
    rw [List.find?_eq_none]
    intro q hq
    obtain ⟨p, hp, rfl⟩ := List.mem_map.1 hq
    simpa using h p hp
  rw [this]; rfl
theorem look_find : ∀ (Lb : List (Nat × SetM)) (s : ByteArray), (lookB (Lb.map fun p => (p.2.name, p.1)) s = none ∧ findM (Lb.map (·.2)) s = none) ∨ ∃ p ∈ Lb, lookB (Lb.map fun p => (p.2.name, p.1)) s = some p.1 ∧ findM (Lb.map (·.2)) s = some p.2 ∧ p.2.name = s
  | [], s => Or.inl ⟨rfl, rfl⟩
  | p :: Lb, s => by
    by_cases h : p.2.name = s
    · exact Or.inr ⟨p, by simp, by simp [lookB, h], by simp [findM, h], h⟩
    · have e1 : lookB ((p :: Lb).map fun p => (p.2.name, p.1)) s = lookB (Lb.map fun p => (p.2.name, p.1)) s := by simp [lookB, List.find?_cons, h]
      have e2 : findM ((p :: Lb).map (·.2)) s = findM (Lb.map (·.2)) s := by simp [findM, List.find?_cons, h]
      rw [e1, e2]
      rcases look_find Lb s with h | ⟨q, hq, h⟩
      · exact Or.inl h
      · exact Or.inr ⟨q, by simp [hq], h⟩

set_option maxHeartbeats 2000000 in
theorem bookOpen_any (v : Value) (ls : List SetM) (w : World) (h : BookR w v ls) (hl : ls.length ≤ 6) (ha : Asc ls) (hz : ∀ x ∈ ls, x.name.size ≤ maxLen) :
    Calls Tryz.prog 142 #[.agg #[v]] w fun e w' => ∃ m Lb, e = .returned (.map (some m)) ∧ SetsB w' w.heap.size m Lb ∧ Lb.map (·.2) = ls ∧ Below w.heap.size w w' := by
  have hmm := @run_makeMap Tryz.prog
  have HA := Lib.hid ha
  have HZ := Lib.hid hz
  have hb0 := Below.new1 (w := w) (.cells #[v] 94)
  have hb1 := hb0.trans ((Below.new1 (w := w.alloc (.cells #[v] 94)) (.map #[] 0)).mono hb0.size)
  have h1 := h.below hb1 (Nat.le_refl _)
  have HM0 := Lib.hid (mapB_made (w.alloc (.cells #[v] 94)))
  have HW0 := Lib.hid hb1
  clear ha hz hb0 hb1
  obtain ⟨A, c, rfl⟩ := h.form
  obtain ⟨n, HL⟩ : ∃ n, Hid (ls.length = n) := ⟨_, Lib.hid rfl⟩
  have hcells := h1.r
  have HLOW := Lib.hid h.l
  clear h1 h
  rw [HL.out] at hcells hl HM0 HW0 HLOW ⊢
  have hsz0 : ((w.alloc (.cells #[.slice A n c] 94)).alloc (.map #[] 0)).heap.size = w.heap.size + 2 := by simp
  by_cases hn : n = 0
  · subst hn
    have HE := Lib.hid (List.length_eq_zero_iff.1 HL.out)
    go_enter Tryz.func142, Tryz.ntmps142
    go_wp2
    go_loop [5, 10] (fun _ i => i = .int .i64 0) (fun _ _ => 0)
    case atStart => rfl
    case round =>
      subst hrel
      go_wp2
      go_ret
      exact ⟨_, rfl, [], ⟨by simpa using HM0.out, by omega, by simp, List.Pairwise.nil, List.Pairwise.nil⟩, by rw [HE.out]; rfl, HW0.out⟩
  · obtain ⟨b, off, c', hv, hnc, hcm, hcell⟩ := hcells.form (by omega)
    injection hv with e1 e2 e3
    subst e1 e3
    clear e2 hcells
    unfold maxLen at hcm
    have hbl : b < w.heap.size := HLOW.out b rfl
    have HC := Lib.hid hcell
    clear hcell
    go_enter Tryz.func142, Tryz.ntmps142
    go_wp2
    have HM1 : Hid (MapB ((w.alloc (.cells #[.slice (some ⟨b, off, none⟩) n c] 94)).alloc (.map #[] 0)) (w.heap.size + 1) []) := Lib.hid (by simpa using HM0.out)
    clear HM0
    generalize (w.alloc (.cells #[.slice (some ⟨b, off, none⟩) n c] 94)).alloc (.map #[] 0) = W at HM1 HW0 HC hsz0
    go_loopw [5, 10] (fun _ i wr => ∃ (k : Nat) (Lb : List (Nat × SetM)), k ≤ n ∧ i = .int .i64 k ∧ Hid (SetsB wr w.heap.size (w.heap.size + 1) Lb) ∧ Hid (Lb.map (·.2) = ls.take k) ∧ Hid (Below w.heap.size w wr) ∧ Hid (Below w.heap.size W wr)) (fun _ i _ => n - (intOf i).toNat)
    case atStart => exact ⟨0, [], Nat.zero_le _, rfl, Lib.hid ⟨HM1.out, by omega, by simp, List.Pairwise.nil, List.Pairwise.nil⟩, Lib.hid rfl, HW0, Lib.hid (Below.refl _ _)⟩
    case round =>
      obtain ⟨k, Lb, hk, rfl, HS, HT, HW, HV⟩ := hrel
      by_cases hlt : k < n
      · have hl0 : k < ls.length := by rw [HL.out]; exact hlt
        obtain ⟨g0, g1, g2, g3, g4, g5, g6, g7, g8, g9, g10⟩ := (set_read (fun j u hu => (HV.out.cell hbl).trans (HC.out j u hu)) k hl0).all
        have hk1 : (k : Int) < (n : Int) := by omega
        have hzn := HZ.out _ (List.getElem_mem hl0)
        have HT2 := Lib.hid (show ls.take (k + 1) = Lb.map (·.2) ++ [ls[k]] from by rw [List.take_succ_eq_append_getElem hl0, HT.out])
        have HNE := Lib.hid (show ∀ p ∈ Lb, p.2.name ≠ ls[k].name from fun p hp => by
          have hm : p.2 ∈ ls.take k := by rw [← HT.out]; exact List.mem_map_of_mem (f := (·.2)) hp
          obtain ⟨i, hi, e⟩ := List.mem_iff_getElem.1 hm
          have hi2 : i < k := by have := hi; rw [List.length_take] at this; omega
          rw [← e, List.getElem_take]
          exact ((List.pairwise_iff_getElem.1 HA.out) i k (by omega) hl0 hi2).ne)
        have hLbl : Lb.length = k := by have := congrArg List.length HT.out; rw [List.length_map, List.length_take] at this; omega
        generalize ls[k] = y at g0 g1 g2 g3 g4 g5 g6 g7 g8 g9 g10 hzn HT2 HNE
        clear hl0 HT
        have hsw := HS.out.map.lt
        have hnw := Below.new1 (w := wr) (.cells #[.string y.name, .int .i64 y.kind, .string y.frm, .string y.b0, .string y.b1, .string y.b2, .string y.b3, .string y.b4, .string y.b5, .string y.b6, .string y.b7] 140)
        have HS1 := Lib.hid (HS.out.below hnw)
        have HX := Lib.hid (show Box _ wr.heap.size (kc y) from box_new wr #[.string y.name, .int .i64 y.kind, .string y.frm, .string y.b0, .string y.b1, .string y.b2, .string y.b3, .string y.b4, .string y.b5, .string y.b6, .string y.b7] 140)
        have s0 := HX.out.cell 0 rfl
        have HW1 := Lib.hid (HW.out.trans (hnw.mono HW.out.size))
        have HV1 := Lib.hid (HV.out.trans (hnw.mono (Nat.le_trans (by omega) HV.out.size)))
        obtain ⟨w3, hrun, hm3, ht3⟩ := HS1.out.map.put hzn (look_none HNE.out) (by simp; omega) wr.heap.size
        have HS3 := Lib.hid (show SetsB w3 w.heap.size (w.heap.size + 1) (Lb ++ [(wr.heap.size, y)]) from by
          refine ⟨by simpa using hm3, by omega, fun p hp => ?_, ?_, ?_⟩
          · rcases List.mem_append.1 hp with hp | hp
            · have := HS1.out.box p hp
              exact ⟨box_mapTurned this.1 ht3 (HS1.out.map.notBox this.1), this.2⟩
            · obtain rfl : p = (wr.heap.size, y) := by simpa using hp
              exact ⟨box_mapTurned HX.out ht3 (HS1.out.map.notBox HX.out), by simp; omega⟩
          · rw [List.pairwise_append]
            exact ⟨HS.out.names, List.pairwise_singleton _ _, fun p hp q hq => by obtain rfl : q = (wr.heap.size, y) := by simpa using hq
                                                                                  exact HNE.out p hp⟩
          · rw [List.pairwise_append]
            exact ⟨HS.out.apart, List.pairwise_singleton _ _, fun p hp q hq => by obtain rfl : q = (wr.heap.size, y) := by simpa using hq
                                                                                  have := (HS.out.box p hp).1.lt
                                                                                  simp; omega⟩)
        have HW3 := Lib.hid (below_mapTurned HW1.out ht3 (by omega))
        have HV3 := Lib.hid (below_mapTurned HV1.out ht3 (by omega))
        clear HS HS1 HW HV HW1 HV1 hm3 ht3 hnw HX
        go_wp2
        go_roundw
        case rel => exact ⟨k + 1, _, by omega, by go_num, HS3, Lib.hid (by rw [HT2.out]; simp), HW3, HV3⟩
        case measure => simp [intOf]; omega
      · have HT2 := Lib.hid (show Lb.map (·.2) = ls from by rw [HT.out, List.take_of_length_le (by rw [HL.out]; omega)])
        go_wp2
        go_ret
        first
          | exact ⟨_, rfl, Lb, HS.out, HT2.out, HW.out⟩
          | exact ⟨_, Lb, rfl, HS.out, HT2.out, HW.out⟩
end Go.Proofs.YtobjgdnmlibofaaGreat

/-
  impl's rooted: following From by name.
-/
set_option maxRecDepth 100000
namespace Go.Proofs.YtobjgdnmlibofaaGreat
open Go.ChangeShapes Go.WideShapes Go.ChangeAt Go.RowKit Go.Proofs.Palim Go.Maps

theorem roots_true {ls : List SetM} {x : SetM} {m : Nat} (hk : x.kind = 1) (h : x.frm.size = 0) : rootsM ls (m + 1) x = true := by rw [rootsM, if_pos ⟨hk, h⟩]
theorem roots_miss {ls : List SetM} {x : SetM} {m : Nat} (h : ¬ (x.kind = 1 ∧ x.frm.size = 0)) (hf : findM ls x.frm = none) : rootsM ls (m + 1) x = false := by rw [rootsM, if_neg h, hf]
theorem roots_hit {ls : List SetM} {x y : SetM} {m : Nat} (h : ¬ (x.kind = 1 ∧ x.frm.size = 0)) (hf : findM ls x.frm = some y) : rootsM ls (m + 1) x = if y.kind = x.kind then false else rootsM ls m y := by rw [rootsM, if_neg h, hf]

set_option maxHeartbeats 4000000 in
theorem rooted_any (m base : Nat) (Lb : List (Nat × SetM)) (x : SetM) (w : World) (h : SetsB w base m Lb) (hl : Lb.length ≤ 6) (hx : x.frm.size ≤ maxLen) (hz : ∀ p ∈ Lb, p.2.frm.size ≤ maxLen) :
    Calls Tryz.prog 143 #[.map (some m), .agg #[.string x.name, .int .i64 x.kind, .string x.frm, .string x.b0, .string x.b1, .string x.b2, .string x.b3, .string x.b4, .string x.b5, .string x.b6, .string x.b7]] w fun e w' => e = .returned (.bool (rootsM (Lb.map (·.2)) Lb.length x)) ∧ Below w.heap.size w w' := by
  have hnot : ∀ (x : Bool) (w : World), (Op.unary .not (.bool x)).run Tryz.prog w = .ok (.bool (!x)) w := fun _ _ => rfl
  obtain ⟨n, HL⟩ : ∃ n, Hid (Lb.length = n) := ⟨_, Lib.hid rfl⟩
  obtain ⟨ok, HOK⟩ : ∃ ok, Hid (rootsM (Lb.map (·.2)) Lb.length x = ok) := ⟨_, Lib.hid rfl⟩
  rw [HOK.out]
  have HS := Lib.hid h
  have HZ := Lib.hid hz
  have HXZ := Lib.hid hx
  have HY := Lib.hid (show Box _ w.heap.size (kc x) from box_new w #[.string x.name, .int .i64 x.kind, .string x.frm, .string x.b0, .string x.b1, .string x.b2, .string x.b3, .string x.b4, .string x.b5, .string x.b6, .string x.b7] 140)
  have HW := Lib.hid (Below.new1 (w := w) (.cells #[.string x.name, .int .i64 x.kind, .string x.frm, .string x.b0, .string x.b1, .string x.b2, .string x.b3, .string x.b4, .string x.b5, .string x.b6, .string x.b7] 140))
  have hlen := (HS.out.below HW.out).map.len
  rw [List.length_map, HL.out] at hlen
  rw [HL.out] at hl HOK
  clear h hz hx
  go_enter Tryz.func143, Tryz.ntmps143
  go_wp2
  clear hlen
  generalize w.alloc (.cells #[.string x.name, .int .i64 x.kind, .string x.frm, .string x.b0, .string x.b1, .string x.b2, .string x.b3, .string x.b4, .string x.b5, .string x.b6, .string x.b7] 140) = W at HY HW
  go_loopw [5, 6, 9] (fun _ _ i wr => ∃ (k : Nat) (z : SetM), k ≤ n ∧ i = .int .i64 k ∧ Hid (z.frm.size ≤ maxLen) ∧ Hid (Box wr w.heap.size (kc z)) ∧ Hid (Below w.heap.size w wr) ∧ Hid (rootsM (Lb.map (·.2)) (n - k) z = ok)) (fun _ _ i _ => n - (intOf i).toNat)
  case atStart => exact ⟨0, x, Nat.zero_le _, rfl, HXZ, HY, HW, HOK⟩
  case round =>
    obtain ⟨k, z, hk, rfl, HFZ, HY1, HW1, HQ⟩ := hrel
    clear HY HW HOK HXZ
    obtain ⟨g0, g1, g2, g3, g4, g5, g6, g7, g8, g9, g10⟩ := (setAt_of_box HY1.out).all
    simp only [Nat.zero_add] at g1 g2 g3 g4 g5 g6 g7 g8 g9 g10
    by_cases hlt : k < n
    · obtain ⟨j, HM⟩ : ∃ j, Hid (n - k = j + 1) := ⟨n - k - 1, Lib.hid (by omega)⟩
      rw [HM.out] at HQ
      by_cases hr : z.kind = 1 ∧ z.frm.size = 0
      · have he2 := eqEmpty hr.2
        have hk2 : (z.kind == 1) = true := by simp [hr.1]
        have HF := Lib.hid ((roots_true hr.1 hr.2).symm.trans HQ.out)
        clear hr HQ
        go_wp2
        go_ret
        exact ⟨ret_boolB HF.out, HW1.out⟩
      · have HR := Lib.hid hr
        have hkk : ((z.kind == 1) = false) ∨ ((z.kind == 1) = true ∧ (z.frm.toList == []) = false) := by
          by_cases h1 : z.kind = 1
          · exact Or.inr ⟨by simp [h1], neEmpty fun c => hr ⟨h1, c⟩⟩
          · exact Or.inl (by simp [h1])
        clear hr
        have HS1 := Lib.hid (HS.out.below HW1.out)
        have hlook := HS1.out.map.look HFZ.out
        rcases look_find Lb z.frm with ⟨h1, h2⟩ | ⟨p, hp, h1, h2, -⟩
        · rw [h1] at hlook
          simp only [lookV, Option.map_none, Option.isSome_none] at hlook
          have HF := Lib.hid ((roots_miss HR.out h2).symm.trans HQ.out)
          clear h1 h2 HQ
          rcases hkk with hk2 | ⟨hk2, he2⟩
          all_goals
            go_wp2_with fail
            go_quiet (fail)
            go_wp2
            go_ret
            exact ⟨ret_boolB HF.out, below_drewN HW1.out _⟩
        · rw [h1] at hlook
          obtain ⟨pb, y⟩ := p
          simp only [lookV, Option.map_some, Option.isSome_some] at hlook
          have HSM := Lib.hid ((roots_hit HR.out h2).symm.trans HQ.out)
          have HPB := Lib.hid (HS1.out.box (pb, y) hp).1
          have HFY := Lib.hid (HZ.out (pb, y) hp)
          obtain ⟨q0, q1, q2, q3, q4, q5, q6, q7, q8, q9, q10⟩ := (setAt_of_box HPB.out).all
          simp only [Nat.zero_add] at q1 q2 q3 q4 q5 q6 q7 q8 q9 q10
          have hpb : pb < w.heap.size := (HS.out.box (pb, y) hp).1.lt
          clear h1 h2 hp HQ
          by_cases hky : y.kind = z.kind
          · have HF := Lib.hid (HSM.out.symm.trans (if_pos hky))
            have hkq : (y.kind == z.kind) = true := by simp [hky]
            clear HSM hky
            rcases hkk with hk2 | ⟨hk2, he2⟩
            all_goals
              go_wp2_with fail
              go_quiet (fail)
              go_wp2
              go_ret
              exact ⟨ret_boolB HF.out.symm, below_drewN HW1.out _⟩
          · have HF := Lib.hid ((if_neg hky).symm.trans HSM.out)
            have hkq : (y.kind == z.kind) = false := by simp [hky]
            clear HSM hky
            have f0 := HY1.out.open_ 0
            have f1 := HY1.out.open_ 1
            have f2 := HY1.out.open_ 2
            have f3 := HY1.out.open_ 3
            have f4 := HY1.out.open_ 4
            have f5 := HY1.out.open_ 5
            have f6 := HY1.out.open_ 6
            have f7 := HY1.out.open_ 7
            have f8 := HY1.out.open_ 8
            have f9 := HY1.out.open_ 9
            have f10 := HY1.out.open_ 10
            rcases hkk with hk2 | ⟨hk2, he2⟩
            all_goals
              go_wp2_with fail
              go_quiet (fail)
              go_wp2
              go_roundw
              case rel => exact ⟨k + 1, y, by omega, by go_num, HFY, Lib.hid (Box.set11 (HY1.out.drewN _) y), Lib.hid (below_set11 (below_drewN HW1.out _) (by omega) y), Lib.hid (by have := HM.out; rw [show n - (k + 1) = j by omega]; exact HF.out)⟩
              case measure => simp [intOf]; omega
    · have HF := Lib.hid (show false = ok from by have := HQ.out; rw [show n - k = 0 by omega] at this; exact this)
      go_wp2
      go_ret
      exact ⟨ret_boolB HF.out, HW1.out⟩
end Go.Proofs.YtobjgdnmlibofaaGreat

/-
  impl's BookOk.
-/
set_option maxRecDepth 100000
namespace Go.Proofs.YtobjgdnmlibofaaGreat
open Go.ChangeShapes Go.WideShapes Go.ChangeAt Go.RowKit Go.Proofs.Palim Go.Maps

theorem bookSetOk_is (x : SetM) (r : Bool) (w : World) (hz : x.name.size ≤ 1048576 ∧ x.frm.size ≤ 1048576 ∧ ∀ s ∈ x.bs, s.size ≤ 1048576) (hr : decide (SetOkM x) = r) :
    Calls Tryz.prog 141 #[.agg #[.string x.name, .int .i64 x.kind, .string x.frm, .string x.b0, .string x.b1, .string x.b2, .string x.b3, .string x.b4, .string x.b5, .string x.b6, .string x.b7]] w fun e w' => e = .returned (.bool r) ∧ Below w.heap.size w w' := hr ▸ bookSetOk_any x w hz

set_option maxHeartbeats 4000000 in
theorem ImplBookOk_any (v : Value) (ls : List SetM) (w : World) (h : BookR w v ls) (hs : BookShort ls) :
    Calls Tryz.prog 133 #[.agg #[v]] w fun e w' => e = .returned (.bool (decide (BookOkM ls))) ∧ Below w.heap.size w w' := by
  have hnot : ∀ (x : Bool) (w : World), (Op.unary .not (.bool x)).run Tryz.prog w = .ok (.bool (!x)) w := fun _ _ => rfl
  obtain ⟨ok, HOK⟩ : ∃ ok, Hid (decide (BookOkM ls) = ok) := ⟨_, Lib.hid rfl⟩
  rw [HOK.out]
  have HS := Lib.hid hs
  have hb0 := Below.new1 (w := w) (.cells #[v] 94)
  have XB := Lib.hid (bbox_new h 94)
  have HW := Lib.hid hb0
  clear hs hb0
  obtain ⟨A, c, rfl⟩ := h.form
  clear h
  obtain ⟨n, HL⟩ : ∃ n, Hid (ls.length = n) := ⟨_, Lib.hid rfl⟩
  have hn := HS.out.n
  rw [HL.out] at XB HW hn ⊢
  by_cases hbig : 6 < n
  · have HF := Lib.hid (HOK.out.symm.trans (bad_len (by rw [HL.out]; exact hbig)))
    go_enter Tryz.func133, Tryz.ntmps133
    go_wp2
    go_ret
    exact ⟨ret_boolB HF.out.symm, HW.out⟩
  go_enter Tryz.func133, Tryz.ntmps133
  go_wp2
  generalize w.alloc (.cells #[.slice A n c] 94) = W at XB HW
  go_loopw [3, 4, 15] (fun _ _ i wr => ∃ (k : Nat), k ≤ n ∧ i = .int .i64 k ∧ Hid (BBox wr w.heap.size w.heap.size (.slice A n c) ls) ∧ Hid (Below w.heap.size w wr) ∧ Hid (GoodTo ls k)) (fun _ _ i _ => n - (intOf i).toNat)
  case atStart => exact ⟨0, Nat.zero_le _, rfl, XB, HW, Lib.hid (fun j _ h => absurd h (Nat.not_lt_zero _))⟩
  case round =>
    obtain ⟨k, hk, rfl, XB1, HW1, HG⟩ := hrel
    clear XB HW
    have x0 := XB1.out.cell
    by_cases hlt : k < n
    case pos =>
      have hl0 : k < ls.length := by rw [HL.out]; exact hlt
      have hcells := XB1.out.reads.r
      rw [HL.out] at hcells
      obtain ⟨b, off, c', hv, hnc, hcm, hcell⟩ := hcells.form (by omega)
      injection hv with e1 e2 e3
      subst e1 e3
      clear e2 hcells
      unfold maxLen at hcm
      have hbl : b < wr.heap.size := XB1.out.reads.l b rfl
      have hxl : w.heap.size < wr.heap.size := XB1.out.box.lt
      obtain ⟨g0, g1, g2, g3, g4, g5, g6, g7, g8, g9, g10⟩ := (set_read hcell k hl0).all
      have hk1 : (k : Int) < (n : Int) := by omega
      have HZY := Lib.hid (HS.out.z ls[k] (List.getElem_mem hl0))
      have HBS := Lib.hid (fun h => HOK.out.symm.trans (bad_set hl0 h))
      have HGS := Lib.hid (fun h1 h2 => good_succ HG.out hl0 h1 h2)
      obtain ⟨p, HP, HBA⟩ : ∃ p : SetM, Hid (∀ _ : 0 < k, SetAt wr b (off + (k - 1) * 11) p) ∧ Hid ((∀ _ : 0 < k, ¬ Lt p.name ls[k].name → ok = false) ∧ (∀ _ : 0 < k, Lt p.name ls[k].name → Lt (ls[k - 1]'(by omega)).name ls[k].name)) := by
        by_cases h : 0 < k
        · exact ⟨ls[k - 1]'(by omega), Lib.hid (fun _ => set_read hcell (k - 1) (by omega)), Lib.hid ⟨fun _ hh => HOK.out.symm.trans (bad_asc hl0 h hh), fun _ hh => hh⟩⟩
        · exact ⟨ls[k], Lib.hid (fun h' => absurd h' h), Lib.hid ⟨fun h' => absurd h' h, fun h' => absurd h' h⟩⟩
      have HGN := Lib.hid (show SetOkM ls[k] → (∀ _ : 0 < k, Lt p.name ls[k].name) → GoodTo ls (k + 1) from fun h1 h2 => HGS.out h1 fun h0 => HBA.out.2 h0 (h2 h0))
      have HBA1 := Lib.hid HBA.out.1
      clear HGS HBA
      generalize ls[k] = y at g0 g1 g2 g3 g4 g5 g6 g7 g8 g9 g10 HZY HBS HBA1 HGN
      clear hcell hl0
      go_wp2_with fail
      have hnw := Below.new1 (w := wr) (.cells #[.string y.name, .int .i64 y.kind, .string y.frm, .string y.b0, .string y.b1, .string y.b2, .string y.b3, .string y.b4, .string y.b5, .string y.b6, .string y.b7] 140)
      have XB2 := Lib.hid (XB1.out.below hnw)
      have HXS := Lib.hid (show Box _ wr.heap.size (kc y) from box_new wr #[.string y.name, .int .i64 y.kind, .string y.frm, .string y.b0, .string y.b1, .string y.b2, .string y.b3, .string y.b4, .string y.b5, .string y.b6, .string y.b7] 140)
      have HP2 := Lib.hid (fun h0 => (HP.out h0).below hnw hbl)
      have HW2 := Lib.hid (HW1.out.trans (hnw.mono HW1.out.size))
      have hszW : (wr.alloc (.cells #[.string y.name, .int .i64 y.kind, .string y.frm, .string y.b0, .string y.b1, .string y.b2, .string y.b3, .string y.b4, .string y.b5, .string y.b6, .string y.b7] 140)).heap.size = wr.heap.size + 1 := by simp
      clear XB1 HP HW1 hnw x0 g0 g1 g2 g3 g4 g5 g6 g7 g8 g9 g10
      generalize wr.alloc (.cells #[.string y.name, .int .i64 y.kind, .string y.frm, .string y.b0, .string y.b1, .string y.b2, .string y.b3, .string y.b4, .string y.b5, .string y.b6, .string y.b7] 140) = W1 at XB2 HXS HP2 HW2 hszW
      have x0 := XB2.out.cell
      obtain ⟨s0, s1, s2, s3, s4, s5, s6, s7, s8, s9, s10⟩ := (setAt_of_box HXS.out).all
      simp only [Nat.zero_add] at s1 s2 s3 s4 s5 s6 s7 s8 s9 s10
      by_cases hok : SetOkM y
      case neg =>
        have hor := decide_eq_false hok
        have HF := Lib.hid (HBS.out hok)
        clear hok HGN HBA1 HP2
        refine wp_region_held_drew (S := fun w' => w'.cell? ⟨wr.heap.size, 0, none⟩ = some (.string y.name) ∧ w'.cell? ⟨wr.heap.size, 1, none⟩ = some (.int .i64 y.kind) ∧ w'.cell? ⟨wr.heap.size, 2, none⟩ = some (.string y.frm) ∧ w'.cell? ⟨wr.heap.size, 3, none⟩ = some (.string y.b0) ∧ w'.cell? ⟨wr.heap.size, 4, none⟩ = some (.string y.b1) ∧ w'.cell? ⟨wr.heap.size, 5, none⟩ = some (.string y.b2) ∧ w'.cell? ⟨wr.heap.size, 6, none⟩ = some (.string y.b3) ∧ w'.cell? ⟨wr.heap.size, 7, none⟩ = some (.string y.b4) ∧ w'.cell? ⟨wr.heap.size, 8, none⟩ = some (.string y.b5) ∧ w'.cell? ⟨wr.heap.size, 9, none⟩ = some (.string y.b6) ∧ w'.cell? ⟨wr.heap.size, 10, none⟩ = some (.string y.b7) ∧ w'.cell? ⟨w.heap.size, 0, none⟩ = some (.slice (some ⟨b, off, none⟩) n c)) (by kernel_rfl) ⟨s0, s1, s2, s3, s4, s5, s6, s7, s8, s9, s10, x0⟩ (fun hHeld => ?_)
        refine wpAnyH_take (i := 0) (v := ?_) rfl (by kernel_rfl) (by kernel_rfl) (by kernel_rfl) (fun _ _ _ h => h) (Or.inl ⟨by first | kernel_rfl | rfl, ?_⟩) (by assumption) ?_
        rotate_left
        · (intro w' hSw; (try dsimp only at hSw); go_simp; try with_reducible rfl)
        try simp only [Act.put]
        refine wpAnyH_ready (rs := [1]) (by kernel_rfl) (by simp) ?_
        refine AllReadyH.cons rfl (fun K hK => ?_) AllReadyH.nil
        go_simp
        go_at_call 141
        with_reducible refine (bookSetOk_is y _ _ HZY.out hor).mono ?_
        rintro e w2 ⟨rfl, hb2⟩
        go_wp2_with fail
        refine hK.out _ _ ?_ (fun hHeld2 => ?_)
        · first | go_keep | (go_split_ands; refine ⟨?_, ?_, ?_, ?_, ?_, ?_, ?_, ?_, ?_, ?_, ?_, ?_⟩; all_goals (rw [hb2.cell (by simp <;> omega)]; assumption))
        clear hK K
        try simp only [Act.put]
        refine wpAnyH_take (i := 2) (v := ?_) rfl (by kernel_rfl) (by kernel_rfl) (by kernel_rfl) (fun _ _ _ h => h) (Or.inl ⟨by first | kernel_rfl | rfl, ?_⟩) (by assumption) ?_
        rotate_left
        · (intro w' hSw; (try dsimp only at hSw); go_simp; try with_reducible rfl)
        try simp only [Act.put]
        refine wpAnyH_take (i := 3) (v := ?_) rfl (by kernel_rfl) (by kernel_rfl) (by kernel_rfl) (fun _ _ _ h => h) (Or.inl ⟨by first | kernel_rfl | rfl, ?_⟩) (by assumption) ?_
        rotate_left
        · (intro w' hSw; (try dsimp only at hSw); go_simp; try with_reducible rfl)
        try simp only [Act.put]
        refine wpAnyH_take (i := 4) (v := undef) rfl (by kernel_rfl) (by kernel_rfl) (by kernel_rfl) (fun _ _ _ h => h) (Or.inr ⟨by kernel_rfl, rfl⟩) (by assumption) ?_
        try simp only [Act.put]
        refine wpAnyH_take (i := 5) (v := undef) rfl (by kernel_rfl) (by kernel_rfl) (by kernel_rfl) (fun _ _ _ h => h) (Or.inr ⟨by kernel_rfl, rfl⟩) (by assumption) ?_
        try simp only [Act.put]
        refine wpAnyH_take (i := 6) (v := undef) rfl (by kernel_rfl) (by kernel_rfl) (by kernel_rfl) (fun _ _ _ h => h) (Or.inr ⟨by kernel_rfl, rfl⟩) (by assumption) ?_
        try simp only [Act.put]
        refine wpAnyH_take (i := 7) (v := undef) rfl (by kernel_rfl) (by kernel_rfl) (by kernel_rfl) (fun _ _ _ h => h) (Or.inr ⟨by kernel_rfl, rfl⟩) (by assumption) ?_
        try simp only [Act.put]
        refine wpAnyH_take (i := 8) (v := undef) rfl (by kernel_rfl) (by kernel_rfl) (by kernel_rfl) (fun _ _ _ h => h) (Or.inr ⟨by kernel_rfl, rfl⟩) (by assumption) ?_
        try simp only [Act.put]
        refine wpAnyH_take (i := 9) (v := undef) rfl (by kernel_rfl) (by kernel_rfl) (by kernel_rfl) (fun _ _ _ h => h) (Or.inr ⟨by kernel_rfl, rfl⟩) (by assumption) ?_
        try simp only [Act.put]
        refine wpAnyH_take (i := 10) (v := undef) rfl (by kernel_rfl) (by kernel_rfl) (by kernel_rfl) (fun _ _ _ h => h) (Or.inr ⟨by kernel_rfl, rfl⟩) (by assumption) ?_
        try simp only [Act.put]
        refine wpAnyH_take (i := 11) (v := undef) rfl (by kernel_rfl) (by kernel_rfl) (by kernel_rfl) (fun _ _ _ h => h) (Or.inr ⟨by kernel_rfl, rfl⟩) (by assumption) ?_
        try simp only [Act.put]
        refine wpAnyH_take (i := 12) (v := undef) rfl (by kernel_rfl) (by kernel_rfl) (by kernel_rfl) (fun _ _ _ h => h) (Or.inr ⟨by kernel_rfl, rfl⟩) (by assumption) ?_
        try simp only [Act.put]
        refine wpAnyH_take (i := 13) (v := undef) rfl (by kernel_rfl) (by kernel_rfl) (by kernel_rfl) (fun _ _ _ h => h) (Or.inr ⟨by kernel_rfl, rfl⟩) (by assumption) ?_
        try simp only [Act.put]
        refine wpAnyH_take (i := 14) (v := undef) rfl (by kernel_rfl) (by kernel_rfl) (by kernel_rfl) (fun _ _ _ h => h) (Or.inr ⟨by kernel_rfl, rfl⟩) (by assumption) ?_
        try simp only [Act.put]
        refine wpAnyH_take (i := 15) (v := undef) rfl (by kernel_rfl) (by kernel_rfl) (by kernel_rfl) (fun _ _ _ h => h) (Or.inr ⟨by kernel_rfl, rfl⟩) (by assumption) ?_
        try simp only [Act.put]
        refine wpAnyH_take (i := 16) (v := undef) rfl (by kernel_rfl) (by kernel_rfl) (by kernel_rfl) (fun _ _ _ h => h) (Or.inr ⟨by kernel_rfl, rfl⟩) (by assumption) ?_
        try simp only [Act.put]
        refine wpAnyH_take (i := 17) (v := undef) rfl (by kernel_rfl) (by kernel_rfl) (by kernel_rfl) (fun _ _ _ h => h) (Or.inr ⟨by kernel_rfl, rfl⟩) (by assumption) ?_
        try simp only [Act.put]
        refine wpAnyH_take (i := 18) (v := ?_) rfl (by kernel_rfl) (by kernel_rfl) (by kernel_rfl) (fun _ _ _ h => h) (Or.inl ⟨by first | kernel_rfl | rfl, ?_⟩) (by assumption) ?_
        rotate_left
        · (intro w' hSw; (try dsimp only at hSw); go_simp; try with_reducible rfl)
        try simp only [Act.put]
        refine wpAnyH_done (by kernel_rfl) ?_ _
        go_simp
        clear hHeld hHeld2
        have HW3 := Lib.hid (HW2.out.trans (((below_drewB W1).trans (show Below W1.heap.size W1.drew w2 from hb2)).mono HW2.out.size))
        clear hb2 x0 s0 s1 s2 s3 s4 s5 s6 s7 s8 s9 s10
        go_wp2
        go_ret
        exact ⟨ret_boolB HF.out.symm, HW3.out⟩
      case pos =>
      have hor := decide_eq_true hok
      have HGN1 := Lib.hid (HGN.out hok)
      clear hok HBS HGN
      by_cases hk0 : k = 0
      case pos =>
        subst hk0
        have HGN2 := Lib.hid (HGN1.out (fun h0 => absurd h0 (Nat.lt_irrefl _)))
        clear HGN1 HP2 HBA1
        refine wp_region_held_drew (S := fun w' => w'.cell? ⟨wr.heap.size, 0, none⟩ = some (.string y.name) ∧ w'.cell? ⟨wr.heap.size, 1, none⟩ = some (.int .i64 y.kind) ∧ w'.cell? ⟨wr.heap.size, 2, none⟩ = some (.string y.frm) ∧ w'.cell? ⟨wr.heap.size, 3, none⟩ = some (.string y.b0) ∧ w'.cell? ⟨wr.heap.size, 4, none⟩ = some (.string y.b1) ∧ w'.cell? ⟨wr.heap.size, 5, none⟩ = some (.string y.b2) ∧ w'.cell? ⟨wr.heap.size, 6, none⟩ = some (.string y.b3) ∧ w'.cell? ⟨wr.heap.size, 7, none⟩ = some (.string y.b4) ∧ w'.cell? ⟨wr.heap.size, 8, none⟩ = some (.string y.b5) ∧ w'.cell? ⟨wr.heap.size, 9, none⟩ = some (.string y.b6) ∧ w'.cell? ⟨wr.heap.size, 10, none⟩ = some (.string y.b7) ∧ w'.cell? ⟨w.heap.size, 0, none⟩ = some (.slice (some ⟨b, off, none⟩) n c)) (by kernel_rfl) ⟨s0, s1, s2, s3, s4, s5, s6, s7, s8, s9, s10, x0⟩ (fun hHeld => ?_)
        refine wpAnyH_take (i := 0) (v := ?_) rfl (by kernel_rfl) (by kernel_rfl) (by kernel_rfl) (fun _ _ _ h => h) (Or.inl ⟨by first | kernel_rfl | rfl, ?_⟩) (by assumption) ?_
        rotate_left
        · (intro w' hSw; (try dsimp only at hSw); go_simp; try with_reducible rfl)
        try simp only [Act.put]
        refine wpAnyH_ready (rs := [1]) (by kernel_rfl) (by simp) ?_
        refine AllReadyH.cons rfl (fun K hK => ?_) AllReadyH.nil
        go_simp
        go_at_call 141
        with_reducible refine (bookSetOk_is y _ _ HZY.out hor).mono ?_
        rintro e w2 ⟨rfl, hb2⟩
        go_wp2_with fail
        refine hK.out _ _ ?_ (fun hHeld2 => ?_)
        · first | go_keep | (go_split_ands; refine ⟨?_, ?_, ?_, ?_, ?_, ?_, ?_, ?_, ?_, ?_, ?_, ?_⟩; all_goals (rw [hb2.cell (by simp <;> omega)]; assumption))
        clear hK K
        try simp only [Act.put]
        refine wpAnyH_take (i := 2) (v := ?_) rfl (by kernel_rfl) (by kernel_rfl) (by kernel_rfl) (fun _ _ _ h => h) (Or.inl ⟨by first | kernel_rfl | rfl, ?_⟩) (by assumption) ?_
        rotate_left
        · (intro w' hSw; (try dsimp only at hSw); go_simp; try with_reducible rfl)
        try simp only [Act.put]
        refine wpAnyH_take (i := 3) (v := ?_) rfl (by kernel_rfl) (by kernel_rfl) (by kernel_rfl) (fun _ _ _ h => h) (Or.inl ⟨by first | kernel_rfl | rfl, ?_⟩) (by assumption) ?_
        rotate_left
        · (intro w' hSw; (try dsimp only at hSw); go_simp; try with_reducible rfl)
        try simp only [Act.put]
        refine wpAnyH_take (i := 4) (v := ?_) rfl (by kernel_rfl) (by kernel_rfl) (by kernel_rfl) (fun _ _ _ h => h) (Or.inl ⟨by first | kernel_rfl | rfl, ?_⟩) (by assumption) ?_
        rotate_left
        · (intro w' hSw; (try dsimp only at hSw); go_simp; try with_reducible rfl)
        try simp only [Act.put]
        refine wpAnyH_take (i := 5) (v := ?_) rfl (by kernel_rfl) (by kernel_rfl) (by kernel_rfl) (fun _ _ _ h => h) (Or.inl ⟨by first | kernel_rfl | rfl, ?_⟩) (by assumption) ?_
        rotate_left
        · (intro w' hSw; (try dsimp only at hSw); go_simp; try with_reducible rfl)
        try simp only [Act.put]
        refine wpAnyH_take (i := 6) (v := ?_) rfl (by kernel_rfl) (by kernel_rfl) (by kernel_rfl) (fun _ _ _ h => h) (Or.inl ⟨by first | kernel_rfl | rfl, ?_⟩) (by assumption) ?_
        rotate_left
        · (intro w' hSw; (try dsimp only at hSw); go_simp; try with_reducible rfl)
        try simp only [Act.put]
        refine wpAnyH_take (i := 7) (v := undef) rfl (by kernel_rfl) (by kernel_rfl) (by kernel_rfl) (fun _ _ _ h => h) (Or.inr ⟨by kernel_rfl, rfl⟩) (by assumption) ?_
        try simp only [Act.put]
        refine wpAnyH_take (i := 8) (v := undef) rfl (by kernel_rfl) (by kernel_rfl) (by kernel_rfl) (fun _ _ _ h => h) (Or.inr ⟨by kernel_rfl, rfl⟩) (by assumption) ?_
        try simp only [Act.put]
        refine wpAnyH_take (i := 9) (v := undef) rfl (by kernel_rfl) (by kernel_rfl) (by kernel_rfl) (fun _ _ _ h => h) (Or.inr ⟨by kernel_rfl, rfl⟩) (by assumption) ?_
        try simp only [Act.put]
        refine wpAnyH_take (i := 10) (v := undef) rfl (by kernel_rfl) (by kernel_rfl) (by kernel_rfl) (fun _ _ _ h => h) (Or.inr ⟨by kernel_rfl, rfl⟩) (by assumption) ?_
        try simp only [Act.put]
        refine wpAnyH_take (i := 11) (v := undef) rfl (by kernel_rfl) (by kernel_rfl) (by kernel_rfl) (fun _ _ _ h => h) (Or.inr ⟨by kernel_rfl, rfl⟩) (by assumption) ?_
        try simp only [Act.put]
        refine wpAnyH_take (i := 12) (v := undef) rfl (by kernel_rfl) (by kernel_rfl) (by kernel_rfl) (fun _ _ _ h => h) (Or.inr ⟨by kernel_rfl, rfl⟩) (by assumption) ?_
        try simp only [Act.put]
        refine wpAnyH_take (i := 13) (v := undef) rfl (by kernel_rfl) (by kernel_rfl) (by kernel_rfl) (fun _ _ _ h => h) (Or.inr ⟨by kernel_rfl, rfl⟩) (by assumption) ?_
        try simp only [Act.put]
        refine wpAnyH_take (i := 14) (v := undef) rfl (by kernel_rfl) (by kernel_rfl) (by kernel_rfl) (fun _ _ _ h => h) (Or.inr ⟨by kernel_rfl, rfl⟩) (by assumption) ?_
        try simp only [Act.put]
        refine wpAnyH_take (i := 15) (v := undef) rfl (by kernel_rfl) (by kernel_rfl) (by kernel_rfl) (fun _ _ _ h => h) (Or.inr ⟨by kernel_rfl, rfl⟩) (by assumption) ?_
        try simp only [Act.put]
        refine wpAnyH_take (i := 16) (v := undef) rfl (by kernel_rfl) (by kernel_rfl) (by kernel_rfl) (fun _ _ _ h => h) (Or.inr ⟨by kernel_rfl, rfl⟩) (by assumption) ?_
        try simp only [Act.put]
        refine wpAnyH_take (i := 17) (v := ?_) rfl (by kernel_rfl) (by kernel_rfl) (by kernel_rfl) (fun _ _ _ h => h) (Or.inl ⟨by first | kernel_rfl | rfl, ?_⟩) (by assumption) ?_
        rotate_left
        · (intro w' hSw; (try dsimp only at hSw); go_simp; try with_reducible rfl)
        try simp only [Act.put]
        refine wpAnyH_take (i := 18) (v := ?_) rfl (by kernel_rfl) (by kernel_rfl) (by kernel_rfl) (fun _ _ _ h => h) (Or.inl ⟨by first | kernel_rfl | rfl, ?_⟩) (by assumption) ?_
        rotate_left
        · (intro w' hSw; (try dsimp only at hSw); go_simp; try with_reducible rfl)
        try simp only [Act.put]
        refine wpAnyH_done (by kernel_rfl) ?_ _
        go_simp
        clear hHeld hHeld2
        have hb3 := (below_drewB W1).trans (show Below W1.heap.size W1.drew w2 from hb2)
        have XB3 := Lib.hid (XB2.out.below hb3)
        have HW3 := Lib.hid (HW2.out.trans (hb3.mono HW2.out.size))
        clear hb2 hb3 x0 s0 s1 s2 s3 s4 s5 s6 s7 s8 s9 s10 XB2 HW2 HXS
        go_wp2
        go_roundw
        case rel => exact ⟨1, by omega, by go_num, XB3, HW3, HGN2⟩
        case measure => simp [intOf]; omega
      case neg =>
        obtain ⟨k, rfl⟩ : ∃ k', k = k' + 1 := ⟨k - 1, by omega⟩
        have p0 := (HP2.out (by omega)).all.1
        rw [Nat.add_sub_cancel] at p0
        have hkk : ((k + 1 : Nat) : Int) > 0 := by omega
        have hki : (k : Int) < (n : Int) := by omega
        have hwr : IntKind.i64.wrap (k : Int) = k := IntWalk.i64_in _ (by omega)
        by_cases hpy : Lt p.name y.name
        case neg =>
          have HF := Lib.hid (HBA1.out (by omega) hpy)
          have hlq : Op.bytesLess p.name.toList y.name.toList = false := by simpa [Lt] using hpy
          clear HP2 HBA1 hpy HGN1
          refine wp_region_held_drew (S := fun w' => w'.cell? ⟨wr.heap.size, 0, none⟩ = some (.string y.name) ∧ w'.cell? ⟨wr.heap.size, 1, none⟩ = some (.int .i64 y.kind) ∧ w'.cell? ⟨wr.heap.size, 2, none⟩ = some (.string y.frm) ∧ w'.cell? ⟨wr.heap.size, 3, none⟩ = some (.string y.b0) ∧ w'.cell? ⟨wr.heap.size, 4, none⟩ = some (.string y.b1) ∧ w'.cell? ⟨wr.heap.size, 5, none⟩ = some (.string y.b2) ∧ w'.cell? ⟨wr.heap.size, 6, none⟩ = some (.string y.b3) ∧ w'.cell? ⟨wr.heap.size, 7, none⟩ = some (.string y.b4) ∧ w'.cell? ⟨wr.heap.size, 8, none⟩ = some (.string y.b5) ∧ w'.cell? ⟨wr.heap.size, 9, none⟩ = some (.string y.b6) ∧ w'.cell? ⟨wr.heap.size, 10, none⟩ = some (.string y.b7) ∧ w'.cell? ⟨w.heap.size, 0, none⟩ = some (.slice (some ⟨b, off, none⟩) n c) ∧ w'.cell? ⟨b, off + k * 11, none⟩ = some (.string p.name)) (by kernel_rfl) ⟨s0, s1, s2, s3, s4, s5, s6, s7, s8, s9, s10, x0, p0⟩ (fun hHeld => ?_)
          refine wpAnyH_take (i := 0) (v := ?_) rfl (by kernel_rfl) (by kernel_rfl) (by kernel_rfl) (fun _ _ _ h => h) (Or.inl ⟨by first | kernel_rfl | rfl, ?_⟩) (by assumption) ?_
          rotate_left
          · (intro w' hSw; (try dsimp only at hSw); go_simp; try with_reducible rfl)
          try simp only [Act.put]
          refine wpAnyH_ready (rs := [1]) (by kernel_rfl) (by simp) ?_
          refine AllReadyH.cons rfl (fun K hK => ?_) AllReadyH.nil
          go_simp
          go_at_call 141
          with_reducible refine (bookSetOk_is y _ _ HZY.out hor).mono ?_
          rintro e w2 ⟨rfl, hb2⟩
          go_wp2_with fail
          refine hK.out _ _ ?_ (fun hHeld2 => ?_)
          · first | go_keep | (go_split_ands; refine ⟨?_, ?_, ?_, ?_, ?_, ?_, ?_, ?_, ?_, ?_, ?_, ?_, ?_⟩; all_goals (rw [hb2.cell (by simp <;> omega)]; assumption))
          clear hK K
          try simp only [Act.put]
          refine wpAnyH_take (i := 2) (v := ?_) rfl (by kernel_rfl) (by kernel_rfl) (by kernel_rfl) (fun _ _ _ h => h) (Or.inl ⟨by first | kernel_rfl | rfl, ?_⟩) (by assumption) ?_
          rotate_left
          · (intro w' hSw; (try dsimp only at hSw); go_simp; try with_reducible rfl)
          try simp only [Act.put]
          refine wpAnyH_take (i := 3) (v := ?_) rfl (by kernel_rfl) (by kernel_rfl) (by kernel_rfl) (fun _ _ _ h => h) (Or.inl ⟨by first | kernel_rfl | rfl, ?_⟩) (by assumption) ?_
          rotate_left
          · (intro w' hSw; (try dsimp only at hSw); go_simp; try with_reducible rfl)
          try simp only [Act.put]
          refine wpAnyH_take (i := 4) (v := ?_) rfl (by kernel_rfl) (by kernel_rfl) (by kernel_rfl) (fun _ _ _ h => h) (Or.inl ⟨by first | kernel_rfl | rfl, ?_⟩) (by assumption) ?_
          rotate_left
          · (intro w' hSw; (try dsimp only at hSw); go_simp; try with_reducible rfl)
          try simp only [Act.put]
          refine wpAnyH_take (i := 5) (v := ?_) rfl (by kernel_rfl) (by kernel_rfl) (by kernel_rfl) (fun _ _ _ h => h) (Or.inl ⟨by first | kernel_rfl | rfl, ?_⟩) (by assumption) ?_
          rotate_left
          · (intro w' hSw; (try dsimp only at hSw); go_simp; try with_reducible rfl)
          try simp only [Act.put]
          refine wpAnyH_take (i := 6) (v := ?_) rfl (by kernel_rfl) (by kernel_rfl) (by kernel_rfl) (fun _ _ _ h => h) (Or.inl ⟨by first | kernel_rfl | rfl, ?_⟩) (by assumption) ?_
          rotate_left
          · (intro w' hSw; (try dsimp only at hSw); go_simp; try with_reducible rfl)
          try simp only [Act.put]
          refine wpAnyH_take (i := 7) (v := ?_) rfl (by kernel_rfl) (by kernel_rfl) (by kernel_rfl) (fun _ _ _ h => h) (Or.inl ⟨by first | kernel_rfl | rfl, ?_⟩) (by assumption) ?_
          rotate_left
          · (intro w' hSw; (try dsimp only at hSw); go_simp; try with_reducible rfl)
          try simp only [Act.put]
          refine wpAnyH_take (i := 8) (v := ?_) rfl (by kernel_rfl) (by kernel_rfl) (by kernel_rfl) (fun _ _ _ h => h) (Or.inl ⟨by first | kernel_rfl | rfl, ?_⟩) (by assumption) ?_
          rotate_left
          · (intro w' hSw; (try dsimp only at hSw); go_simp; try with_reducible rfl)
          try simp only [Act.put]
          refine wpAnyH_take (i := 9) (v := ?_) rfl (by kernel_rfl) (by kernel_rfl) (by kernel_rfl) (fun _ _ _ h => h) (Or.inl ⟨by first | kernel_rfl | rfl, ?_⟩) (by assumption) ?_
          rotate_left
          · (intro w' hSw; (try dsimp only at hSw); go_simp; try with_reducible rfl)
          try simp only [Act.put]
          refine wpAnyH_take (i := 10) (v := ?_) rfl (by kernel_rfl) (by kernel_rfl) (by kernel_rfl) (fun _ _ _ h => h) (Or.inl ⟨by first | kernel_rfl | rfl, ?_⟩) (by assumption) ?_
          rotate_left
          · (intro w' hSw; (try dsimp only at hSw); go_simp; try with_reducible rfl)
          try simp only [Act.put]
          refine wpAnyH_take (i := 11) (v := ?_) rfl (by kernel_rfl) (by kernel_rfl) (by kernel_rfl) (fun _ _ _ h => h) (Or.inl ⟨by first | kernel_rfl | rfl, ?_⟩) (by assumption) ?_
          rotate_left
          · (intro w' hSw; (try dsimp only at hSw); go_simp; try with_reducible rfl)
          try simp only [Act.put]
          refine wpAnyH_take (i := 12) (v := ?_) rfl (by kernel_rfl) (by kernel_rfl) (by kernel_rfl) (fun _ _ _ h => h) (Or.inl ⟨by first | kernel_rfl | rfl, ?_⟩) (by assumption) ?_
          rotate_left
          · (intro w' hSw; (try dsimp only at hSw); go_simp; try with_reducible rfl)
          try simp only [Act.put]
          refine wpAnyH_take (i := 13) (v := ?_) rfl (by kernel_rfl) (by kernel_rfl) (by kernel_rfl) (fun _ _ _ h => h) (Or.inl ⟨by first | kernel_rfl | rfl, ?_⟩) (by assumption) ?_
          rotate_left
          · (intro w' hSw; (try dsimp only at hSw); go_simp; try with_reducible rfl)
          try simp only [Act.put]
          refine wpAnyH_take (i := 14) (v := ?_) rfl (by kernel_rfl) (by kernel_rfl) (by kernel_rfl) (fun _ _ _ h => h) (Or.inl ⟨by first | kernel_rfl | rfl, ?_⟩) (by assumption) ?_
          rotate_left
          · (intro w' hSw; (try dsimp only at hSw); go_simp; try with_reducible rfl)
          try simp only [Act.put]
          refine wpAnyH_take (i := 15) (v := ?_) rfl (by kernel_rfl) (by kernel_rfl) (by kernel_rfl) (fun _ _ _ h => h) (Or.inl ⟨by first | kernel_rfl | rfl, ?_⟩) (by assumption) ?_
          rotate_left
          · (intro w' hSw; (try dsimp only at hSw); go_simp; try with_reducible rfl)
          try simp only [Act.put]
          refine wpAnyH_take (i := 16) (v := ?_) rfl (by kernel_rfl) (by kernel_rfl) (by kernel_rfl) (fun _ _ _ h => h) (Or.inl ⟨by first | kernel_rfl | rfl, ?_⟩) (by assumption) ?_
          rotate_left
          · (intro w' hSw; (try dsimp only at hSw); go_simp; try with_reducible rfl)
          try simp only [Act.put]
          refine wpAnyH_take (i := 17) (v := ?_) rfl (by kernel_rfl) (by kernel_rfl) (by kernel_rfl) (fun _ _ _ h => h) (Or.inl ⟨by first | kernel_rfl | rfl, ?_⟩) (by assumption) ?_
          rotate_left
          · (intro w' hSw; (try dsimp only at hSw); go_simp; try with_reducible rfl)
          try simp only [Act.put]
          refine wpAnyH_take (i := 18) (v := ?_) rfl (by kernel_rfl) (by kernel_rfl) (by kernel_rfl) (fun _ _ _ h => h) (Or.inl ⟨by first | kernel_rfl | rfl, ?_⟩) (by assumption) ?_
          rotate_left
          · (intro w' hSw; (try dsimp only at hSw); go_simp; try with_reducible rfl)
          try simp only [Act.put]
          refine wpAnyH_done (by kernel_rfl) ?_ _
          go_simp
          clear hHeld hHeld2
          have HW3 := Lib.hid (HW2.out.trans (((below_drewB W1).trans (show Below W1.heap.size W1.drew w2 from hb2)).mono HW2.out.size))
          clear hb2 x0 s0 s1 s2 s3 s4 s5 s6 s7 s8 s9 s10
          go_wp2
          go_ret
          exact ⟨ret_boolB HF.out.symm, HW3.out⟩
        case pos =>
        have HGN2 := Lib.hid (HGN1.out fun _ => hpy)
        have hlq : Op.bytesLess p.name.toList y.name.toList = true := hpy
        clear HP2 HBA1 hpy HGN1
        refine wp_region_held_drew (S := fun w' => w'.cell? ⟨wr.heap.size, 0, none⟩ = some (.string y.name) ∧ w'.cell? ⟨wr.heap.size, 1, none⟩ = some (.int .i64 y.kind) ∧ w'.cell? ⟨wr.heap.size, 2, none⟩ = some (.string y.frm) ∧ w'.cell? ⟨wr.heap.size, 3, none⟩ = some (.string y.b0) ∧ w'.cell? ⟨wr.heap.size, 4, none⟩ = some (.string y.b1) ∧ w'.cell? ⟨wr.heap.size, 5, none⟩ = some (.string y.b2) ∧ w'.cell? ⟨wr.heap.size, 6, none⟩ = some (.string y.b3) ∧ w'.cell? ⟨wr.heap.size, 7, none⟩ = some (.string y.b4) ∧ w'.cell? ⟨wr.heap.size, 8, none⟩ = some (.string y.b5) ∧ w'.cell? ⟨wr.heap.size, 9, none⟩ = some (.string y.b6) ∧ w'.cell? ⟨wr.heap.size, 10, none⟩ = some (.string y.b7) ∧ w'.cell? ⟨w.heap.size, 0, none⟩ = some (.slice (some ⟨b, off, none⟩) n c) ∧ w'.cell? ⟨b, off + k * 11, none⟩ = some (.string p.name)) (by kernel_rfl) ⟨s0, s1, s2, s3, s4, s5, s6, s7, s8, s9, s10, x0, p0⟩ (fun hHeld => ?_)
        refine wpAnyH_take (i := 0) (v := ?_) rfl (by kernel_rfl) (by kernel_rfl) (by kernel_rfl) (fun _ _ _ h => h) (Or.inl ⟨by first | kernel_rfl | rfl, ?_⟩) (by assumption) ?_
        rotate_left
        · (intro w' hSw; (try dsimp only at hSw); go_simp; try with_reducible rfl)
        try simp only [Act.put]
        refine wpAnyH_ready (rs := [1]) (by kernel_rfl) (by simp) ?_
        refine AllReadyH.cons rfl (fun K hK => ?_) AllReadyH.nil
        go_simp
        go_at_call 141
        with_reducible refine (bookSetOk_is y _ _ HZY.out hor).mono ?_
        rintro e w2 ⟨rfl, hb2⟩
        go_wp2_with fail
        refine hK.out _ _ ?_ (fun hHeld2 => ?_)
        · first | go_keep | (go_split_ands; refine ⟨?_, ?_, ?_, ?_, ?_, ?_, ?_, ?_, ?_, ?_, ?_, ?_, ?_⟩; all_goals (rw [hb2.cell (by simp <;> omega)]; assumption))
        clear hK K
        try simp only [Act.put]
        refine wpAnyH_take (i := 2) (v := ?_) rfl (by kernel_rfl) (by kernel_rfl) (by kernel_rfl) (fun _ _ _ h => h) (Or.inl ⟨by first | kernel_rfl | rfl, ?_⟩) (by assumption) ?_
        rotate_left
        · (intro w' hSw; (try dsimp only at hSw); go_simp; try with_reducible rfl)
        try simp only [Act.put]
        refine wpAnyH_take (i := 3) (v := ?_) rfl (by kernel_rfl) (by kernel_rfl) (by kernel_rfl) (fun _ _ _ h => h) (Or.inl ⟨by first | kernel_rfl | rfl, ?_⟩) (by assumption) ?_
        rotate_left
        · (intro w' hSw; (try dsimp only at hSw); go_simp; try with_reducible rfl)
        try simp only [Act.put]
        refine wpAnyH_take (i := 4) (v := ?_) rfl (by kernel_rfl) (by kernel_rfl) (by kernel_rfl) (fun _ _ _ h => h) (Or.inl ⟨by first | kernel_rfl | rfl, ?_⟩) (by assumption) ?_
        rotate_left
        · (intro w' hSw; (try dsimp only at hSw); go_simp; try with_reducible rfl)
        try simp only [Act.put]
        refine wpAnyH_take (i := 5) (v := ?_) rfl (by kernel_rfl) (by kernel_rfl) (by kernel_rfl) (fun _ _ _ h => h) (Or.inl ⟨by first | kernel_rfl | rfl, ?_⟩) (by assumption) ?_
        rotate_left
        · (intro w' hSw; (try dsimp only at hSw); go_simp; try with_reducible rfl)
        try simp only [Act.put]
        refine wpAnyH_take (i := 6) (v := ?_) rfl (by kernel_rfl) (by kernel_rfl) (by kernel_rfl) (fun _ _ _ h => h) (Or.inl ⟨by first | kernel_rfl | rfl, ?_⟩) (by assumption) ?_
        rotate_left
        · (intro w' hSw; (try dsimp only at hSw); go_simp; try with_reducible rfl)
        try simp only [Act.put]
        refine wpAnyH_take (i := 7) (v := ?_) rfl (by kernel_rfl) (by kernel_rfl) (by kernel_rfl) (fun _ _ _ h => h) (Or.inl ⟨by first | kernel_rfl | rfl, ?_⟩) (by assumption) ?_
        rotate_left
        · (intro w' hSw; (try dsimp only at hSw); go_simp; try with_reducible rfl)
        try simp only [Act.put]
        refine wpAnyH_take (i := 8) (v := ?_) rfl (by kernel_rfl) (by kernel_rfl) (by kernel_rfl) (fun _ _ _ h => h) (Or.inl ⟨by first | kernel_rfl | rfl, ?_⟩) (by assumption) ?_
        rotate_left
        · (intro w' hSw; (try dsimp only at hSw); go_simp; try with_reducible rfl)
        try simp only [Act.put]
        refine wpAnyH_take (i := 9) (v := ?_) rfl (by kernel_rfl) (by kernel_rfl) (by kernel_rfl) (fun _ _ _ h => h) (Or.inl ⟨by first | kernel_rfl | rfl, ?_⟩) (by assumption) ?_
        rotate_left
        · (intro w' hSw; (try dsimp only at hSw); go_simp; try with_reducible rfl)
        try simp only [Act.put]
        refine wpAnyH_take (i := 10) (v := ?_) rfl (by kernel_rfl) (by kernel_rfl) (by kernel_rfl) (fun _ _ _ h => h) (Or.inl ⟨by first | kernel_rfl | rfl, ?_⟩) (by assumption) ?_
        rotate_left
        · (intro w' hSw; (try dsimp only at hSw); go_simp; try with_reducible rfl)
        try simp only [Act.put]
        refine wpAnyH_take (i := 11) (v := ?_) rfl (by kernel_rfl) (by kernel_rfl) (by kernel_rfl) (fun _ _ _ h => h) (Or.inl ⟨by first | kernel_rfl | rfl, ?_⟩) (by assumption) ?_
        rotate_left
        · (intro w' hSw; (try dsimp only at hSw); go_simp; try with_reducible rfl)
        try simp only [Act.put]
        refine wpAnyH_take (i := 12) (v := ?_) rfl (by kernel_rfl) (by kernel_rfl) (by kernel_rfl) (fun _ _ _ h => h) (Or.inl ⟨by first | kernel_rfl | rfl, ?_⟩) (by assumption) ?_
        rotate_left
        · (intro w' hSw; (try dsimp only at hSw); go_simp; try with_reducible rfl)
        try simp only [Act.put]
        refine wpAnyH_take (i := 13) (v := ?_) rfl (by kernel_rfl) (by kernel_rfl) (by kernel_rfl) (fun _ _ _ h => h) (Or.inl ⟨by first | kernel_rfl | rfl, ?_⟩) (by assumption) ?_
        rotate_left
        · (intro w' hSw; (try dsimp only at hSw); go_simp; try with_reducible rfl)
        try simp only [Act.put]
        refine wpAnyH_take (i := 14) (v := ?_) rfl (by kernel_rfl) (by kernel_rfl) (by kernel_rfl) (fun _ _ _ h => h) (Or.inl ⟨by first | kernel_rfl | rfl, ?_⟩) (by assumption) ?_
        rotate_left
        · (intro w' hSw; (try dsimp only at hSw); go_simp; try with_reducible rfl)
        try simp only [Act.put]
        refine wpAnyH_take (i := 15) (v := ?_) rfl (by kernel_rfl) (by kernel_rfl) (by kernel_rfl) (fun _ _ _ h => h) (Or.inl ⟨by first | kernel_rfl | rfl, ?_⟩) (by assumption) ?_
        rotate_left
        · (intro w' hSw; (try dsimp only at hSw); go_simp; try with_reducible rfl)
        try simp only [Act.put]
        refine wpAnyH_take (i := 16) (v := ?_) rfl (by kernel_rfl) (by kernel_rfl) (by kernel_rfl) (fun _ _ _ h => h) (Or.inl ⟨by first | kernel_rfl | rfl, ?_⟩) (by assumption) ?_
        rotate_left
        · (intro w' hSw; (try dsimp only at hSw); go_simp; try with_reducible rfl)
        try simp only [Act.put]
        refine wpAnyH_take (i := 17) (v := ?_) rfl (by kernel_rfl) (by kernel_rfl) (by kernel_rfl) (fun _ _ _ h => h) (Or.inl ⟨by first | kernel_rfl | rfl, ?_⟩) (by assumption) ?_
        rotate_left
        · (intro w' hSw; (try dsimp only at hSw); go_simp; try with_reducible rfl)
        try simp only [Act.put]
        refine wpAnyH_take (i := 18) (v := ?_) rfl (by kernel_rfl) (by kernel_rfl) (by kernel_rfl) (fun _ _ _ h => h) (Or.inl ⟨by first | kernel_rfl | rfl, ?_⟩) (by assumption) ?_
        rotate_left
        · (intro w' hSw; (try dsimp only at hSw); go_simp; try with_reducible rfl)
        try simp only [Act.put]
        refine wpAnyH_done (by kernel_rfl) ?_ _
        go_simp
        clear hHeld hHeld2
        have hb3 := (below_drewB W1).trans (show Below W1.heap.size W1.drew w2 from hb2)
        have XB3 := Lib.hid (XB2.out.below hb3)
        have HW3 := Lib.hid (HW2.out.trans (hb3.mono HW2.out.size))
        clear hb2 hb3 x0 p0 s0 s1 s2 s3 s4 s5 s6 s7 s8 s9 s10 XB2 HW2 HXS
        go_wp2
        go_roundw
        case rel => exact ⟨k + 1 + 1, by omega, by go_num, XB3, HW3, HGN2⟩
        case measure => simp [intOf]; omega
    case neg =>
      have HG2 := Lib.hid (show GoodTo ls ls.length from by rw [HL.out, show n = k by omega]; exact HG.out)
      obtain ⟨HSO, HAS⟩ : Hid (∀ x ∈ ls, SetOkM x) ∧ Hid (Asc ls) := ⟨Lib.hid (good_all HG2.out (Nat.le_refl _)).1, Lib.hid (good_all HG2.out (Nat.le_refl _)).2⟩
      clear HG
      go_wp2_with fail
      refine (bookOpen_any _ ls _ XB1.out.reads (by rw [HL.out]; omega) HAS.out (fun x hx => by have := (HS.out.z x hx).1; unfold maxLen; omega)).mono ?_
      rintro e w2 ⟨m, Lb, rfl, hsb, hlb, hb2⟩
      have XB2 := Lib.hid (XB1.out.below hb2)
      have HW2 := Lib.hid (HW1.out.trans (hb2.mono HW1.out.size))
      obtain ⟨B, HSB⟩ : ∃ B, Hid (SetsB w2 B m Lb) := ⟨_, Lib.hid hsb⟩
      have HLB := Lib.hid hlb
      have HLL := Lib.hid (show Lb.length = n from by rw [← HL.out, ← hlb, List.length_map])
      clear hsb hlb hb2 XB1 HW1 x0
      have x0 := XB2.out.cell
      go_wp2
      go_loopw [7, 45] (fun _ i wr' => ∃ (k : Nat), k ≤ n ∧ i = .int .i64 k ∧ Hid (BBox wr' w.heap.size w.heap.size (.slice A n c) ls) ∧ Hid (SetsB wr' B m Lb) ∧ Hid (Below w.heap.size w wr') ∧ Hid (∀ (j : Nat) (h : j < ls.length), j < k → rootsM ls ls.length ls[j] = true)) (fun _ i _ => n - (intOf i).toNat)
      case atStart => exact ⟨0, Nat.zero_le _, rfl, XB2, HSB, HW2, Lib.hid (fun j _ h => absurd h (Nat.not_lt_zero _))⟩
      case round =>
        clear hk hlt x0
        obtain ⟨q, hq, rfl, XB3, HSB3, HW3, HK⟩ := hrel
        clear XB2 HW2 HSB
        have x0 := XB3.out.cell
        by_cases hlt : q < n
        case pos =>
          have hl0 : q < ls.length := by rw [HL.out]; exact hlt
          have hcells := XB3.out.reads.r
          rw [HL.out] at hcells
          obtain ⟨b, off, c', hv, hnc, hcm, hcell⟩ := hcells.form (by omega)
          injection hv with e1 e2 e3
          subst e1 e3
          clear e2 hcells
          unfold maxLen at hcm
          obtain ⟨g0, g1, g2, g3, g4, g5, g6, g7, g8, g9, g10⟩ := (set_read hcell q hl0).all
          have hk1 : (q : Int) < (n : Int) := by omega
          have hzf := (HS.out.z ls[q] (List.getElem_mem hl0)).2.1
          have HRB := Lib.hid (show rootsM ls ls.length ls[q] = false → ok = false from fun hh => HOK.out.symm.trans (bad_root hl0 hh))
          have HK1 := Lib.hid (show rootsM ls ls.length ls[q] = true → ∀ (j : Nat) (h : j < ls.length), j < q + 1 → rootsM ls ls.length ls[j] = true from fun hh j h hj => by
            rcases Nat.lt_succ_iff_lt_or_eq.1 hj with h3 | rfl
            · exact HK.out j h h3
            · exact hh)
          generalize ls[q] = y at g0 g1 g2 g3 g4 g5 g6 g7 g8 g9 g10 HRB HK1 hzf
          clear hcell hl0 HK
          obtain ⟨r, HR⟩ : ∃ r, Hid (rootsM ls ls.length y = r) := ⟨_, Lib.hid rfl⟩
          go_wp2_with fail
          have hnw := Below.new1 (w := wr) (.cells #[.string y.name, .int .i64 y.kind, .string y.frm, .string y.b0, .string y.b1, .string y.b2, .string y.b3, .string y.b4, .string y.b5, .string y.b6, .string y.b7] 140)
          have HR2 := Lib.hid (show rootsM (Lb.map (·.2)) Lb.length y = r from by rw [← HR.out, HLB.out, HLL.out, HL.out])
          refine (rooted_any m _ Lb y _ (HSB3.out.below hnw) (by rw [HLL.out]; omega) (by unfold maxLen; omega) (fun p hp => by have := (HS.out.z p.2 (by rw [← HLB.out]; exact List.mem_map_of_mem (f := (·.2)) hp)).2.1; unfold maxLen; omega)).mono ?_
          rintro e w3 ⟨rfl, hb3⟩
          rw [HR2.out]
          have hb4 := hnw.trans (hb3.mono hnw.size)
          have XB4 := Lib.hid (XB3.out.below hb4)
          have HSB4 := Lib.hid (HSB3.out.below hb4)
          have HW4 := Lib.hid (HW3.out.trans (hb4.mono HW3.out.size))
          clear hnw hb3 hb4 XB3 HSB3 HW3 x0 g0 g1 g2 g3 g4 g5 g6 g7 g8 g9 g10
          cases r with
          | true =>
            have HK2 := Lib.hid (HK1.out HR.out)
            go_wp2
            go_roundw
            case rel => exact ⟨q + 1, by omega, by go_num, XB4, HSB4, HW4, HK2⟩
            case measure => simp [intOf]; omega
          | false =>
            have HF := Lib.hid (HRB.out HR.out)
            go_wp2
            go_ret
            exact ⟨ret_boolB HF.out.symm, HW4.out⟩
        case neg =>
          have HF := Lib.hid (HOK.out.symm.trans (good_book (by rw [HL.out]; omega) HG2.out fun j h => HK.out j h (by have := HL.out; omega)))
          go_wp2
          go_ret
          exact ⟨ret_boolB HF.out.symm, HW3.out⟩
end Go.Proofs.YtobjgdnmlibofaaGreat

/-
  impl: the outline of a core's sets, and whether the sets are right.
-/
set_option maxRecDepth 100000
namespace Go.Proofs.YtobjgdnmlibofaaGreat
open Go.ChangeShapes Go.WideShapes Go.ChangeAt Go.RowKit Go.Proofs.Palim

theorem kc_one (x : SetM) : ∀ u ∈ kc x, u.oneCell' = true := by
  intro u hu
  simp [kc] at hu
  rcases hu with rfl | rfl | rfl | rfl | rfl | rfl | rfl | rfl | rfl | rfl | rfl <;> rfl
theorem sl_nm (w : World) (x : CSetM) (e : Nat) : Sl (w.alloc (.cells #[.string x.name, .int .i64 x.kind, .string x.frm, .string ⟨#[]⟩, .string ⟨#[]⟩, .string ⟨#[]⟩, .string ⟨#[]⟩, .string ⟨#[]⟩, .string ⟨#[]⟩, .string ⟨#[]⟩, .string ⟨#[]⟩] e)) 11 (.slice (some ⟨w.heap.size, 0, none⟩) 1 1) 1 (kc (nameM x)) := by
  refine ⟨rfl, _, _, rfl, Nat.le_refl _, by unfold maxLen; omega, Or.inr ⟨w.heap.size, 0, rfl, fun j u hu => ?_⟩⟩
  have := (box_new w #[.string x.name, .int .i64 x.kind, .string x.frm, .string ⟨#[]⟩, .string ⟨#[]⟩, .string ⟨#[]⟩, .string ⟨#[]⟩, .string ⟨#[]⟩, .string ⟨#[]⟩, .string ⟨#[]⟩, .string ⟨#[]⟩] e).cell j hu
  rwa [Nat.zero_add]
theorem infoBkSet : (Tryz.prog.info? 140).map (fun i => (i.zero, i.size, i.bytes)) = some (some (.agg #[.string ⟨#[]⟩, .int .i64 0, .string ⟨#[]⟩, .string ⟨#[]⟩, .string ⟨#[]⟩, .string ⟨#[]⟩, .string ⟨#[]⟩, .string ⟨#[]⟩, .string ⟨#[]⟩, .string ⟨#[]⟩, .string ⟨#[]⟩]), 11, 168) := by kernel_rfl
theorem aggBookD : Agg Tryz.prog 94 1 := ⟨Tryz.isAgg94, Tryz.sizeOf94⟩
theorem aggSetD : Agg Tryz.prog 89 31 := ⟨Tryz.isAgg89, Tryz.sizeOf89⟩

set_option maxHeartbeats 4000000 in
theorem outline_any (v : Value) (ls : List CSetM) (w : World) (h : Sl w 31 v ls.length (ccs ls)) (hv : Low w.heap.size v) (hl : ls.length ≤ 1048576) :
    Calls Tryz.prog 134 #[v] w fun e w' => ∃ u, e = .returned (.agg #[u]) ∧ w'.ownsRow w.heap.size 140 11 u ls.length (kcs (namesM ls)) ∧ Below w.heap.size w w' := by
  obtain ⟨i0, hi, hz0, hz1, hz2⟩ := info_parts infoBkSet
  obtain ⟨n, HL⟩ : ∃ n, Hid (ls.length = n) := ⟨_, Lib.hid rfl⟩
  rw [HL.out] at h hl ⊢
  have hnm := h.le
  unfold maxLen at hnm
  obtain ⟨X1, X2, hsz, hB⟩ := box2 w #[.slice none 0 0] #[.slice none 0 0] 94 94
  have X1 := Lib.hid X1
  have X2 := Lib.hid X2
  have B0 := Lib.hid hB
  clear hB
  have HS := Lib.hid (h.below B0.out hv)
  obtain ⟨_, A, c, rfl, _, hcm, _⟩ := h
  unfold maxLen at hcm
  have HV := Lib.hid hv
  clear hv
  go_enter Tryz.func134, Tryz.ntmps134
  go_wp2
  generalize (w.alloc (.cells #[.slice none 0 0] 94)).alloc (.cells #[.slice none 0 0] 94) = W at X1 X2 B0 HS hsz ⊢
  go_loopw [5, 8] (fun _ i wr => ∃ (k : Nat) (D : Option Addr) (cap : Nat), k ≤ n ∧ i = .int .i64 k ∧ Hid (Box wr w.heap.size [.slice none 0 0]) ∧ Hid (Box wr (w.heap.size + 1) [.slice D k cap]) ∧ Hid (wr.ownsRow w.heap.size 140 11 (.slice D k cap) k (kcs (namesM (ls.take k)))) ∧ Hid (Below w.heap.size w wr) ∧ Hid (Sl wr 31 (.slice A n c) n (ccs ls)) ∧ w.heap.size + 2 ≤ wr.heap.size ∧ Hid (∀ b, (Value.slice D k cap).ownBlock = some b → w.heap.size + 1 < b)) (fun _ i _ => n - (RowKit.intOf i).toNat)
  case atStart => exact ⟨0, none, 0, Nat.zero_le _, rfl, X1, X2, Lib.hid ⟨rfl, Or.inl ⟨rfl, rfl⟩⟩, B0, HS, by omega, Lib.hid (fun b e => by cases e)⟩
  case round =>
    obtain ⟨k, D, cap, hk, rfl, HX1, HX2, HO, HB, HSr, hszr, HBK⟩ := hrel
    clear X1 X2 B0 HS hsz
    by_cases hlt : k < n
    case pos =>
      have hl0 : k < ls.length := by rw [HL.out]; exact hlt
      obtain ⟨b, off, c', hvv, _, _, hcell⟩ := HSr.out.form (by omega)
      injection hvv with e1 e2 e3
      subst e1 e3
      clear e2
      have hrd := cset_read hcell k hl0
      have hk1 : (k : Int) < (n : Int) := by omega
      have hbl : b < w.heap.size := HV.out b rfl
      have HE := Lib.hid (show kcs (namesM (ls.take (k + 1))) = kcs (namesM (ls.take k)) ++ kc (nameM ls[k]) from by
        rw [show namesM (ls.take (k + 1)) = namesM (ls.take k) ++ [nameM ls[k]] from by unfold namesM; rw [List.take_succ_eq_append_getElem hl0, List.map_append]; rfl, kcs_snoc])
      obtain ⟨x, HXX⟩ : ∃ x, Hid (ls[k] = x) := ⟨_, Lib.hid rfl⟩
      rw [HXX.out] at hrd HE
      have HRD := Lib.hid hrd
      clear hrd hcell hl0 HXX
      have hn1 := Below.new1 (w := wr) (.cells #[.string ⟨#[]⟩, .int .i64 0, .string ⟨#[]⟩, .int .i64 0, .int .i64 0, .int .i64 0, .int .i64 0, .int .i64 0, .int .i64 0, .int .i64 0, .int .i64 0, .int .i64 0, .int .i64 0, .int .i64 0, .int .i64 0, .int .i64 0, .int .i64 0, .int .i64 0, .int .i64 0, .int .i64 0, .int .i64 0, .int .i64 0, .int .i64 0, .int .i64 0, .int .i64 0, .int .i64 0, .int .i64 0, .int .i64 0, .int .i64 0, .int .i64 0, .bool false] 89)
      have HBX := Lib.hid ((show Box _ wr.heap.size [.string ⟨#[]⟩, .int .i64 0, .string ⟨#[]⟩, .int .i64 0, .int .i64 0, .int .i64 0, .int .i64 0, .int .i64 0, .int .i64 0, .int .i64 0, .int .i64 0, .int .i64 0, .int .i64 0, .int .i64 0, .int .i64 0, .int .i64 0, .int .i64 0, .int .i64 0, .int .i64 0, .int .i64 0, .int .i64 0, .int .i64 0, .int .i64 0, .int .i64 0, .int .i64 0, .int .i64 0, .int .i64 0, .int .i64 0, .int .i64 0, .int .i64 0, .bool false] from box_new wr #[.string ⟨#[]⟩, .int .i64 0, .string ⟨#[]⟩, .int .i64 0, .int .i64 0, .int .i64 0, .int .i64 0, .int .i64 0, .int .i64 0, .int .i64 0, .int .i64 0, .int .i64 0, .int .i64 0, .int .i64 0, .int .i64 0, .int .i64 0, .int .i64 0, .int .i64 0, .int .i64 0, .int .i64 0, .int .i64 0, .int .i64 0, .int .i64 0, .int .i64 0, .int .i64 0, .int .i64 0, .int .i64 0, .int .i64 0, .int .i64 0, .int .i64 0, .bool false] 89).putAll (cc x) (by rw [cc_length]; rfl))
      have hpb : Below wr.heap.size wr (putC (wr.alloc (.cells #[.string ⟨#[]⟩, .int .i64 0, .string ⟨#[]⟩, .int .i64 0, .int .i64 0, .int .i64 0, .int .i64 0, .int .i64 0, .int .i64 0, .int .i64 0, .int .i64 0, .int .i64 0, .int .i64 0, .int .i64 0, .int .i64 0, .int .i64 0, .int .i64 0, .int .i64 0, .int .i64 0, .int .i64 0, .int .i64 0, .int .i64 0, .int .i64 0, .int .i64 0, .int .i64 0, .int .i64 0, .int .i64 0, .int .i64 0, .int .i64 0, .int .i64 0, .bool false] 89)) wr.heap.size 0 (cc x)) := putC_below hn1 _ _ (Nat.le_refl _) _
      have HNX := Lib.hid (show Box _ wr.heap.size [.string ⟨#[]⟩, .int .i64 0, .string ⟨#[]⟩, .int .i64 0, .int .i64 0, .int .i64 0, .int .i64 0, .int .i64 0, .int .i64 0, .int .i64 0, .int .i64 0, .int .i64 0, .int .i64 0, .int .i64 0, .int .i64 0, .int .i64 0, .int .i64 0, .int .i64 0, .int .i64 0, .int .i64 0, .int .i64 0, .int .i64 0, .int .i64 0, .int .i64 0, .int .i64 0, .int .i64 0, .int .i64 0, .int .i64 0, .int .i64 0, .int .i64 0, .bool false] from box_new wr #[.string ⟨#[]⟩, .int .i64 0, .string ⟨#[]⟩, .int .i64 0, .int .i64 0, .int .i64 0, .int .i64 0, .int .i64 0, .int .i64 0, .int .i64 0, .int .i64 0, .int .i64 0, .int .i64 0, .int .i64 0, .int .i64 0, .int .i64 0, .int .i64 0, .int .i64 0, .int .i64 0, .int .i64 0, .int .i64 0, .int .i64 0, .int .i64 0, .int .i64 0, .int .i64 0, .int .i64 0, .int .i64 0, .int .i64 0, .int .i64 0, .int .i64 0, .bool false] 89)
      have Y1 := Lib.hid (HX1.out.below hpb HX1.out.lt)
      have Y2 := Lib.hid (HX2.out.below hpb HX2.out.lt)
      have HO1 := Lib.hid (own_kept HO.out (fun b e => hpb.block b (HO.out.lt b e).2))
      have HB1 := Lib.hid (HB.out.trans (hpb.mono HB.out.size))
      have HS1 := Lib.hid (HSr.out.below hpb (fun b' e => Nat.lt_of_lt_of_le (HV.out b' e) HB.out.size))
      have hsz1 : wr.heap.size + 1 = (putC (wr.alloc (.cells #[.string ⟨#[]⟩, .int .i64 0, .string ⟨#[]⟩, .int .i64 0, .int .i64 0, .int .i64 0, .int .i64 0, .int .i64 0, .int .i64 0, .int .i64 0, .int .i64 0, .int .i64 0, .int .i64 0, .int .i64 0, .int .i64 0, .int .i64 0, .int .i64 0, .int .i64 0, .int .i64 0, .int .i64 0, .int .i64 0, .int .i64 0, .int .i64 0, .int .i64 0, .int .i64 0, .int .i64 0, .int .i64 0, .int .i64 0, .int .i64 0, .int .i64 0, .bool false] 89)) wr.heap.size 0 (cc x)).heap.size := by rw [putC_size]; simp
      clear hn1 hpb HX1 HX2 HO HB HSr
      go_wp2_with (first | (refine wpList_load_cs rfl _ rfl aggSetD rfl (cc x) (cc_length x) HRD.out ?_) | (refine wpList_store_box rfl _ _ rfl rfl aggSetD rfl (cc x) rfl (cc_length x) (cc_one x) [.string ⟨#[]⟩, .int .i64 0, .string ⟨#[]⟩, .int .i64 0, .int .i64 0, .int .i64 0, .int .i64 0, .int .i64 0, .int .i64 0, .int .i64 0, .int .i64 0, .int .i64 0, .int .i64 0, .int .i64 0, .int .i64 0, .int .i64 0, .int .i64 0, .int .i64 0, .int .i64 0, .int .i64 0, .int .i64 0, .int .i64 0, .int .i64 0, .int .i64 0, .int .i64 0, .int .i64 0, .int .i64 0, .int .i64 0, .int .i64 0, .int .i64 0, .bool false] HNX.out rfl ?_; clear HNX; generalize putC (wr.alloc (.cells #[.string ⟨#[]⟩, .int .i64 0, .string ⟨#[]⟩, .int .i64 0, .int .i64 0, .int .i64 0, .int .i64 0, .int .i64 0, .int .i64 0, .int .i64 0, .int .i64 0, .int .i64 0, .int .i64 0, .int .i64 0, .int .i64 0, .int .i64 0, .int .i64 0, .int .i64 0, .int .i64 0, .int .i64 0, .int .i64 0, .int .i64 0, .int .i64 0, .int .i64 0, .int .i64 0, .int .i64 0, .int .i64 0, .int .i64 0, .int .i64 0, .int .i64 0, .bool false] 89)) wr.heap.size 0 (cc x) = W1 at HBX Y1 Y2 HO1 HB1 HS1 hsz1 ⊢; obtain ⟨n0, n1, n2, -, -, -, -⟩ := ccBox HBX.out; have m0 := Y2.out.cell 0 rfl; have HSN := Lib.hid (sl_nm W1 x 140); have hn2 := Below.new1 (w := W1) (.cells #[.string x.name, .int .i64 x.kind, .string x.frm, .string ⟨#[]⟩, .string ⟨#[]⟩, .string ⟨#[]⟩, .string ⟨#[]⟩, .string ⟨#[]⟩, .string ⟨#[]⟩, .string ⟨#[]⟩, .string ⟨#[]⟩] 140); have HO2 := Lib.hid (own_kept HO1.out (fun b e => hn2.block b (HO1.out.lt b e).2)); have Z1 := Lib.hid (Y1.out.below hn2 Y1.out.lt); have Z2 := Lib.hid (Y2.out.below hn2 Y2.out.lt); have HB2 := Lib.hid (HB1.out.trans (hn2.mono HB1.out.size)); have HS2 := Lib.hid (HS1.out.below hn2 (fun b' e => Nat.lt_of_lt_of_le (HV.out b' e) HB1.out.size)); have hsz2 : (W1.alloc (.cells #[.string x.name, .int .i64 x.kind, .string x.frm, .string ⟨#[]⟩, .string ⟨#[]⟩, .string ⟨#[]⟩, .string ⟨#[]⟩, .string ⟨#[]⟩, .string ⟨#[]⟩, .string ⟨#[]⟩, .string ⟨#[]⟩] 140)).heap.size = W1.heap.size + 1 := by simp) | (at_builtin; refine wpList_append_freshB _ rfl _ _ 92 rfl w.heap.size 140 i0 _ 11 168 Tryz.underlying92 hi hz0 hz1 hz2 rfl (by omega) (.slice D k cap) k _ rfl HO2.out (.slice (some ⟨W1.heap.size, 0, none⟩) 1 1) 1 (kc (nameM x)) rfl HSN.out (kc_one _) (by unfold maxLen; omega) (by omega) (by have := HB2.out.size; omega) ?_))
      intro A2 cap2 w5 hown5 hg5 hloc
      rw [← HE.out] at hown5
      have NM := nm_more Z2.out hg5 HBK.out HB2.out (by omega) hown5 (by rw [hsz2]; exact hloc)
      have c0 := NM.c0
      have f0 := NM.f0
      have U1 := Lib.hid (Z1.out.kept (NM.low _ (by omega)))
      have U2 := Lib.hid NM.box
      have HO5 := Lib.hid NM.own
      have HB5 := Lib.hid NM.below
      have HS5 := Lib.hid (HS2.out.kept (fun b' e => NM.low b' (by have := HV.out b' e; omega)))
      have hsz5 : w.heap.size + 2 ≤ (w5.setCell ⟨w.heap.size + 1, 0, none⟩ (.slice A2 (k + 1) cap2)).heap.size := by have := NM.size; omega
      have HBK5 := Lib.hid NM.hi
      clear hown5 hg5 hloc NM Z1 Z2 HO2 HB2 HS2 HBK Y1 Y2 HO1 HB1 HS1 HSN n0 n1 n2 m0 HBX
      go_wp2
      go_roundw
      case rel => exact ⟨k + 1, A2, cap2, by omega, by go_num, U1, U2, HO5, HB5, HS5, hsz5, HBK5⟩
      case measure => simp [RowKit.intOf]; omega
    case neg =>
      have hkn : k = n := by omega
      subst hkn
      have HT := Lib.hid (show ls.take k = ls from List.take_of_length_le (by rw [HL.out]; omega))
      have c1 := HX2.out.cell 0 rfl
      have c2 := HX1.out.cell 0 rfl
      have f2 := HX1.out.open_ 0
      have U := Lib.hid (HX1.out.set 0 (.slice D k cap))
      have c3 := U.out.cell 0 rfl
      have HO5 := Lib.hid (own_kept HO.out (w' := wr.setCell ⟨w.heap.size, 0, none⟩ (.slice D k cap)) (fun b e => Below.heap_setCell wr _ _ b (fun e2 => by have := HBK.out b e; simp only at e2; omega)))
      have HB5 := Lib.hid (HB.out.setCell (p := ⟨w.heap.size, 0, none⟩) (Nat.le_refl _) (.slice D k cap))
      clear HO HB HX1 HX2 HSr
      go_wp2
      refine bodyPost_ret (v := .agg #[.slice D k cap]) (results_box rfl _ w.heap.size [.slice D k cap] aggBookD rfl rfl U.out) rfl ?_
      refine ⟨_, rfl, ?_, HB5.out⟩
      have h0 := HO5.out
      rw [HT.out] at h0
      exact h0
end Go.Proofs.YtobjgdnmlibofaaGreat

/-
  The document's l6Names.
-/
set_option maxRecDepth 100000
namespace Go.Proofs.YtobjgdnmlibofaaGreat
open Go.ChangeShapes Go.WideShapes Go.ChangeAt Go.RowKit Go.Proofs.Palim

set_option maxHeartbeats 8000000 in
theorem names_any (vs vd vp vi : Value) (c : CoreM) (w : World) (h : CoreR w vs vd vp vi c) (hs : CoreShort c) :
    Calls Tryz.prog 57 #[cv c vs vd vp vi] w fun e w' => ∃ u, e = .returned (.agg #[u]) ∧ w'.ownsRow w.heap.size 140 11 u c.sets.length (kcs (namesM c.sets)) ∧ Below w.heap.size w w' := by
  obtain ⟨i0, hi, hz0, hz1, hz2⟩ := info_parts infoBkSet
  obtain ⟨txg, sets, ddt, parts, dirty, safe, logn⟩ := c
  obtain ⟨A0, k0, A1, k1, A2, k2, A3, k3, e0, e1, e2, e3⟩ := h.forms
  dsimp only at e0 e1 e2 e3
  subst e0 e1 e2 e3
  have HRR := Lib.hid h
  have HS := Lib.hid h.s
  have HLS := Lib.hid h.ls
  have HD := Lib.hid h.d
  have HLD := Lib.hid h.ld
  obtain ⟨n, HL⟩ : ∃ n, Hid (sets.length = n) := ⟨_, Lib.hid rfl⟩
  obtain ⟨nd, HLDT⟩ : ∃ nd, Hid (ddt.length = nd) := ⟨_, Lib.hid rfl⟩
  have hln : n ≤ 1048576 := HL.out ▸ hs.s
  have hck := h.s.le
  clear h hs
  dsimp only at HS HLS HD HLD hck
  rw [HL.out] at HS HLS hck
  rw [HLDT.out] at HD HLD
  unfold maxLen at hck
  have XC0 := Lib.hid (show Box _ w.heap.size [.int .i64 txg, .slice A0 n k0, .slice A1 nd k1, .slice A2 parts.length k2, .bool dirty, .slice A3 safe.length k3, .int .i64 logn] from box_new w #[.int .i64 txg, .slice A0 n k0, .slice A1 nd k1, .slice A2 parts.length k2, .bool dirty, .slice A3 safe.length k3, .int .i64 logn] 44)
  have B00 := Lib.hid (Below.new1 (w := w) (.cells #[.int .i64 txg, .slice A0 n k0, .slice A1 nd k1, .slice A2 parts.length k2, .bool dirty, .slice A3 safe.length k3, .int .i64 logn] 44))
  simp only
  have XC := Lib.hid ((XC0.out.alloc (.cells #[.slice none 0 0] 94)).alloc (.cells #[.slice none 0 0] 94))
  obtain ⟨Y1, Y2, hsz2, hB2⟩ := box2 (w.alloc (.cells #[.int .i64 txg, .slice A0 n k0, .slice A1 nd k1, .slice A2 parts.length k2, .bool dirty, .slice A3 safe.length k3, .int .i64 logn] 44)) #[.slice none 0 0] #[.slice none 0 0] 94 94
  have hsz1 : (w.alloc (.cells #[.int .i64 txg, .slice A0 n k0, .slice A1 nd k1, .slice A2 parts.length k2, .bool dirty, .slice A3 safe.length k3, .int .i64 logn] 44)).heap.size = w.heap.size + 1 := by simp
  rw [hsz1] at Y1 Y2 hsz2 hB2
  have X1 := Lib.hid Y1
  have X2 := Lib.hid Y2
  have B0 := Lib.hid (B00.out.trans (hB2.mono (by omega)))
  clear Y1 Y2 hB2 XC0 B00 hsz1
  go_enter Tryz.func57, Tryz.ntmps57
  go_upto_region 2 with fail
  rw [HL.out, HLDT.out]
  obtain ⟨W0, HWE⟩ : ∃ W0, ((w.alloc (.cells #[.int .i64 txg, .slice A0 n k0, .slice A1 nd k1, .slice A2 parts.length k2, .bool dirty, .slice A3 safe.length k3, .int .i64 logn] 44)).alloc (.cells #[.slice none 0 0] 94)).alloc (.cells #[.slice none 0 0] 94) = W0 := ⟨_, rfl⟩
  rw [HWE] at XC X1 X2 B0 hsz2 ⊢
  clear HWE
  go_wp2
  go_loopw [4] (fun i wr => ∃ (k : Nat) (D : Option Addr) (cap : Nat), k ≤ n ∧ i = .int .i64 k ∧ Hid (Box wr w.heap.size [.int .i64 txg, .slice A0 n k0, .slice A1 nd k1, .slice A2 parts.length k2, .bool dirty, .slice A3 safe.length k3, .int .i64 logn]) ∧ Hid (Box wr (w.heap.size + 1) [.slice none 0 0]) ∧ Hid (Box wr (w.heap.size + 1 + 1) [.slice D k cap]) ∧ Hid (wr.ownsRow w.heap.size 140 11 (.slice D k cap) k (kcs (namesM (sets.take k)))) ∧ Hid (Below w.heap.size w wr) ∧ w.heap.size + 3 ≤ wr.heap.size ∧ Hid (∀ b, (Value.slice D k cap).ownBlock = some b → w.heap.size + 1 + 1 < b)) (fun i _ => n - (RowKit.intOf i).toNat)
  case atStart => exact ⟨0, none, 0, Nat.zero_le _, rfl, XC, X1, X2, Lib.hid ⟨rfl, Or.inl ⟨rfl, rfl⟩⟩, B0, by omega, Lib.hid (fun b e => by cases e)⟩
  case round =>
    obtain ⟨k, D, cap, hk, rfl, HX0, HX1, HX2, HO, HB, hszr, HBK⟩ := hrel
    clear XC X1 X2 B0 hsz2
    have n1 := HX0.out.cell 1 rfl
    by_cases hlt : k < n
    case pos =>
      have hl0 : k < sets.length := by rw [HL.out]; exact hlt
      obtain ⟨b, off, c', hvv, _, _, hcell⟩ := (HS.out.below HB.out HLS.out).form (by omega)
      injection hvv with e1 e2 e3
      subst e1 e3
      clear e2
      obtain ⟨g0, g1, g2⟩ := set_head hcell k hl0
      have hk1 : (k : Int) < (n : Int) := by omega
      have hbl : b < w.heap.size := HLS.out b rfl
      have HE := Lib.hid (show kcs (namesM (sets.take (k + 1))) = kcs (namesM (sets.take k)) ++ kc (nameM sets[k]) from by
        rw [show namesM (sets.take (k + 1)) = namesM (sets.take k) ++ [nameM sets[k]] from by unfold namesM; rw [List.take_succ_eq_append_getElem hl0, List.map_append]; rfl, kcs_snoc])
      obtain ⟨x, HXX⟩ : ∃ x, Hid (sets[k] = x) := ⟨_, Lib.hid rfl⟩
      rw [HXX.out] at g0 g1 g2 HE
      have m0 := HX2.out.cell 0 rfl
      have hn2 : Below wr.heap.size wr (wr.drew.alloc (.cells #[.string x.name, .int .i64 x.kind, .string x.frm, .string ⟨#[]⟩, .string ⟨#[]⟩, .string ⟨#[]⟩, .string ⟨#[]⟩, .string ⟨#[]⟩, .string ⟨#[]⟩, .string ⟨#[]⟩, .string ⟨#[]⟩] 140)) := ((Below.refl _ wr).drew).trans (Below.new1 (w := wr.drew) (.cells #[.string x.name, .int .i64 x.kind, .string x.frm, .string ⟨#[]⟩, .string ⟨#[]⟩, .string ⟨#[]⟩, .string ⟨#[]⟩, .string ⟨#[]⟩, .string ⟨#[]⟩, .string ⟨#[]⟩, .string ⟨#[]⟩] 140))
      have HSN := Lib.hid (show Sl (wr.drew.alloc (.cells #[.string x.name, .int .i64 x.kind, .string x.frm, .string ⟨#[]⟩, .string ⟨#[]⟩, .string ⟨#[]⟩, .string ⟨#[]⟩, .string ⟨#[]⟩, .string ⟨#[]⟩, .string ⟨#[]⟩, .string ⟨#[]⟩] 140)) 11 (.slice (some ⟨wr.heap.size, 0, none⟩) 1 1) 1 (kc (nameM x)) from sl_nm wr.drew x 140)
      have HO2 := Lib.hid (own_kept HO.out (fun b e => hn2.block b (HO.out.lt b e).2))
      have Z0 := Lib.hid (HX0.out.below hn2 HX0.out.lt)
      have Z1 := Lib.hid (HX1.out.below hn2 HX1.out.lt)
      have Z2 := Lib.hid (HX2.out.below hn2 HX2.out.lt)
      have HB2 := Lib.hid (HB.out.trans (hn2.mono HB.out.size))
      have hsz3 : (wr.drew.alloc (.cells #[.string x.name, .int .i64 x.kind, .string x.frm, .string ⟨#[]⟩, .string ⟨#[]⟩, .string ⟨#[]⟩, .string ⟨#[]⟩, .string ⟨#[]⟩, .string ⟨#[]⟩, .string ⟨#[]⟩, .string ⟨#[]⟩] 140)).heap.size = wr.heap.size + 1 := show (wr.heap.push _).size = wr.heap.size + 1 from by simp
      clear hcell HXX
      go_wp2_with fail
      have hbw : b < wr.heap.size := by omega
      have q0 := (hn2.cell (p := ⟨b, off + k * 31, none⟩) hbw).trans g0
      have q1 := (hn2.cell (p := ⟨b, off + k * 31 + 1, none⟩) hbw).trans g1
      have q2 := (hn2.cell (p := ⟨b, off + k * 31 + 2, none⟩) hbw).trans g2
      have qn := Z0.out.cell 1 rfl
      have mz := Z2.out.cell 0 rfl
      have mz2 : (wr.alloc (.cells #[.string x.name, .int .i64 x.kind, .string x.frm, .string ⟨#[]⟩, .string ⟨#[]⟩, .string ⟨#[]⟩, .string ⟨#[]⟩, .string ⟨#[]⟩, .string ⟨#[]⟩, .string ⟨#[]⟩, .string ⟨#[]⟩] 140)).cell? ⟨w.heap.size + 1 + 1, 0, none⟩ = some (.slice D k cap) := mz
      refine wp_region_held_drew (S := fun w' => w'.cell? ⟨w.heap.size, 1, none⟩ = some (.slice (some ⟨b, off, none⟩) n k0) ∧ w'.cell? ⟨b, off + k * 31, none⟩ = some (.string x.name) ∧ w'.cell? ⟨b, off + k * 31 + 1, none⟩ = some (.int .i64 x.kind) ∧ w'.cell? ⟨b, off + k * 31 + 2, none⟩ = some (.string x.frm)) (by kernel_rfl) ⟨n1, g0, g1, g2⟩ (fun hHeld => ?_)
      refine wpAnyH_take (i := 0) (v := ?_) rfl (by kernel_rfl) (by kernel_rfl) (by kernel_rfl) (fun _ _ _ h => h) (Or.inl ⟨by first | kernel_rfl | rfl, ?_⟩) (by assumption) ?_
      rotate_left
      · (intro w' hSw; (try dsimp only at hSw); go_simp; try with_reducible rfl)
      try simp only [Act.put]
      refine wpAnyH_take (i := 2) (v := ?_) rfl (by kernel_rfl) (by kernel_rfl) (by kernel_rfl) (fun _ _ _ h => h) (Or.inl ⟨by first | kernel_rfl | rfl, ?_⟩) (by assumption) ?_
      rotate_left
      · (intro w' hSw; (try dsimp only at hSw); go_simp; try with_reducible rfl)
      try simp only [Act.put]
      refine wpAnyH_take (i := 3) (v := ?_) rfl (by kernel_rfl) (by kernel_rfl) (by kernel_rfl) (fun _ _ _ h => h) (Or.inl ⟨by first | kernel_rfl | rfl, ?_⟩) (by assumption) ?_
      rotate_left
      · (intro w' hSw; (try dsimp only at hSw); go_simp; try with_reducible rfl)
      try simp only [Act.put]
      refine wpAnyH_take (i := 4) (v := ?_) rfl (by kernel_rfl) (by kernel_rfl) (by kernel_rfl) (fun _ _ _ h => h) (Or.inl ⟨by first | kernel_rfl | rfl, ?_⟩) (by assumption) ?_
      rotate_left
      · (intro w' hSw; (try dsimp only at hSw); go_simp; try with_reducible rfl)
      try simp only [Act.put]
      refine wpAnyH_take (i := 5) (v := ?_) rfl (by kernel_rfl) (by kernel_rfl) (by kernel_rfl) (fun _ _ _ h => h) (Or.inl ⟨by first | kernel_rfl | rfl, ?_⟩) (by assumption) ?_
      rotate_left
      · (intro w' hSw; (try dsimp only at hSw); go_simp; try with_reducible rfl)
      try simp only [Act.put]
      refine wpAnyH_take (i := 6) (v := ?_) rfl (by kernel_rfl) (by kernel_rfl) (by kernel_rfl) (fun _ _ _ h => h) (Or.inl ⟨by first | kernel_rfl | rfl, ?_⟩) (by assumption) ?_
      rotate_left
      · (intro w' hSw; (try dsimp only at hSw); go_simp; try with_reducible rfl)
      try simp only [Act.put]
      refine wpAnyH_take (i := 7) (v := ?_) rfl (by kernel_rfl) (by kernel_rfl) (by kernel_rfl) (fun _ _ _ h => h) (Or.inl ⟨by first | kernel_rfl | rfl, ?_⟩) (by assumption) ?_
      rotate_left
      · (intro w' hSw; (try dsimp only at hSw); go_simp; try with_reducible rfl)
      try simp only [Act.put]
      refine wpAnyH_take (i := 8) (v := ?_) rfl (by kernel_rfl) (by kernel_rfl) (by kernel_rfl) (fun _ _ _ h => h) (Or.inl ⟨by first | kernel_rfl | rfl, ?_⟩) (by assumption) ?_
      rotate_left
      · (intro w' hSw; (try dsimp only at hSw); go_simp; try with_reducible rfl)
      try simp only [Act.put]
      refine wpAnyH_take (i := 9) (v := ?_) rfl (by kernel_rfl) (by kernel_rfl) (by kernel_rfl) (fun _ _ _ h => h) (Or.inl ⟨by first | kernel_rfl | rfl, ?_⟩) (by assumption) ?_
      rotate_left
      · (intro w' hSw; (try dsimp only at hSw); go_simp; try with_reducible rfl)
      try simp only [Act.put]
      refine wpAnyH_take (i := 10) (v := ?_) rfl (by kernel_rfl) (by kernel_rfl) (by kernel_rfl) (fun _ _ _ h => h) (Or.inl ⟨by first | kernel_rfl | rfl, ?_⟩) (by assumption) ?_
      rotate_left
      · (intro w' hSw; (try dsimp only at hSw); go_simp; try with_reducible rfl)
      try simp only [Act.put]
      refine wpAnyH_take (i := 11) (v := ?_) rfl (by kernel_rfl) (by kernel_rfl) (by kernel_rfl) (fun _ _ _ h => h) (Or.inl ⟨by first | kernel_rfl | rfl, ?_⟩) (by assumption) ?_
      rotate_left
      · (intro w' hSw; (try dsimp only at hSw); go_simp; try with_reducible rfl)
      try simp only [Act.put]
      refine wpAnyH_take (i := 12) (v := ?_) rfl (by kernel_rfl) (by kernel_rfl) (by kernel_rfl) (fun _ _ _ h => h) (Or.inl ⟨by first | kernel_rfl | rfl, ?_⟩) (by assumption) ?_
      rotate_left
      · (intro w' hSw; (try dsimp only at hSw); go_simp; try with_reducible rfl)
      try simp only [Act.put]
      refine wpAnyH_take (i := 13) (v := ?_) rfl (by kernel_rfl) (by kernel_rfl) (by kernel_rfl) (fun _ _ _ h => h) (Or.inl ⟨by first | kernel_rfl | rfl, ?_⟩) (by assumption) ?_
      rotate_left
      · (intro w' hSw; (try dsimp only at hSw); go_simp; try with_reducible rfl)
      try simp only [Act.put]
      refine wpAnyH_take (i := 14) (v := ?_) rfl (by kernel_rfl) (by kernel_rfl) (by kernel_rfl) (fun _ _ _ h => h) (Or.inl ⟨by first | kernel_rfl | rfl, ?_⟩) (by assumption) ?_
      rotate_left
      · (intro w' hSw; (try dsimp only at hSw); go_simp; try with_reducible rfl)
      try simp only [Act.put]
      refine wpAnyH_take (i := 15) (v := ?_) rfl (by kernel_rfl) (by kernel_rfl) (by kernel_rfl) (fun _ _ _ h => h) (Or.inl ⟨by first | kernel_rfl | rfl, ?_⟩) (by assumption) ?_
      rotate_left
      · (intro w' hSw; (try dsimp only at hSw); go_simp; try with_reducible rfl)
      try simp only [Act.put]
      refine wpAnyH_take (i := 16) (v := ?_) rfl (by kernel_rfl) (by kernel_rfl) (by kernel_rfl) (fun _ _ _ h => h) (Or.inl ⟨by first | kernel_rfl | rfl, ?_⟩) (by assumption) ?_
      rotate_left
      · (intro w' hSw; (try dsimp only at hSw); go_simp; try with_reducible rfl)
      try simp only [Act.put]
      refine wpAnyH_take (i := 17) (v := ?_) rfl (by kernel_rfl) (by kernel_rfl) (by kernel_rfl) (fun _ _ _ h => h) (Or.inl ⟨by first | kernel_rfl | rfl, ?_⟩) (by assumption) ?_
      rotate_left
      · (intro w' hSw; (try dsimp only at hSw); go_simp; try with_reducible rfl)
      try simp only [Act.put]
      refine wpAnyH_take (i := 18) (v := ?_) rfl (by kernel_rfl) (by kernel_rfl) (by kernel_rfl) (fun _ _ _ h => h) (Or.inl ⟨by first | kernel_rfl | rfl, ?_⟩) (by assumption) ?_
      rotate_left
      · (intro w' hSw; (try dsimp only at hSw); go_simp; try with_reducible rfl)
      try simp only [Act.put]
      refine wpAnyH_take (i := 19) (v := ?_) rfl (by kernel_rfl) (by kernel_rfl) (by kernel_rfl) (fun _ _ _ h => h) (Or.inl ⟨by first | kernel_rfl | rfl, ?_⟩) (by assumption) ?_
      rotate_left
      · (intro w' hSw; (try dsimp only at hSw); go_simp; try with_reducible rfl)
      try simp only [Act.put]
      refine wpAnyH_take (i := 20) (v := ?_) rfl (by kernel_rfl) (by kernel_rfl) (by kernel_rfl) (fun _ _ _ h => h) (Or.inl ⟨by first | kernel_rfl | rfl, ?_⟩) (by assumption) ?_
      rotate_left
      · (intro w' hSw; (try dsimp only at hSw); go_simp; try with_reducible rfl)
      try simp only [Act.put]
      refine wpAnyH_ready (rs := [1, 21]) (by kernel_rfl) (by simp) ?_
      refine AllReadyH.cons rfl (fun K hK => ?_) (AllReadyH.cons rfl (fun K hK => ?_) AllReadyH.nil)
      · go_simp
        refine hK.out _ _ ⟨n1, g0, g1, g2⟩ (fun hHeld1 => ?_)
        clear hK K
        try simp only [Act.put]
        refine wpAnyH_ready (rs := [21]) (by kernel_rfl) (by simp) ?_
        refine AllReadyH.cons rfl (fun K hK => ?_) AllReadyH.nil
        go_simp
        refine hK.out _ _ ⟨qn, q0, q1, q2⟩ (fun hHeld2 => ?_)
        clear hK K
        try simp only [Act.put]
        refine wpAnyH_ready (rs := [22]) (by kernel_rfl) (by simp) ?_
        refine AllReadyH.cons rfl (fun K hK => ?_) AllReadyH.nil
        refine step_append_fresh _ (by rfl) _ _ _ (by rfl) w.heap.size 140 i0 _ 11 168 Tryz.underlying92 hi hz0 hz1 hz2 rfl (by omega) (.slice D k cap) k _ (by rfl) HO2.out (.slice (some ⟨wr.heap.size, 0, none⟩) 1 1) 1 (kc (nameM x)) (by rfl) HSN.out (kc_one _) (by unfold maxLen; omega) (by omega) HB2.out.size ?_
        intro A2 cap2 w5 hown5 hg5 hloc
        rw [← HE.out] at hown5
        have NM := nm_more Z2.out hg5 HBK.out HB2.out (by omega) hown5 (by first | exact hloc | (rw [hsz3]; exact hloc))
        have hk5 : ∀ g, g < w.heap.size + 1 + 1 → w5.heap[g]? = (wr.drew.alloc (.cells #[.string x.name, .int .i64 x.kind, .string x.frm, .string ⟨#[]⟩, .string ⟨#[]⟩, .string ⟨#[]⟩, .string ⟨#[]⟩, .string ⟨#[]⟩, .string ⟨#[]⟩, .string ⟨#[]⟩, .string ⟨#[]⟩] 140)).heap[g]? := fun g hg => hg5.block g (Nat.lt_of_lt_of_le (show g < wr.heap.size by omega) hn2.size) (fun e => by have := HBK.out g e.symm; omega)
        have r0 := (World.cell?_of_block (a := ⟨b, off + k * 31, none⟩) (hk5 b (by omega))).trans q0
        have r1 := (World.cell?_of_block (a := ⟨b, off + k * 31 + 1, none⟩) (hk5 b (by omega))).trans q1
        have r2 := (World.cell?_of_block (a := ⟨b, off + k * 31 + 2, none⟩) (hk5 b (by omega))).trans q2
        have rn := (World.cell?_of_block (a := ⟨w.heap.size, 1, none⟩) (hk5 w.heap.size (by omega))).trans qn
        refine hK.out _ _ ⟨rn, r0, r1, r2⟩ (fun hHeld3 => ?_)
        clear hK K
        try simp only [Act.put]
        refine wpAnyH_take (i := 23) (v := ?_) rfl (by kernel_rfl) (by kernel_rfl) (by kernel_rfl) (fun _ _ _ h => h) (Or.inl ⟨by first | kernel_rfl | rfl, ?_⟩) (by assumption) ?_
        rotate_left
        · (intro w' hSw; (try dsimp only at hSw); go_simp; try with_reducible rfl)
        try simp only [Act.put]
        refine wpAnyH_ready (rs := [24]) (by kernel_rfl) (by simp) ?_
        refine AllReadyH.cons rfl (fun K hK => ?_) AllReadyH.nil
        have c0 := NM.c0
        have f0 := NM.f0
        have t0 := (World.cell?_of_block (a := ⟨b, off + k * 31, none⟩) (NM.low b (by omega))).trans q0
        have t1 := (World.cell?_of_block (a := ⟨b, off + k * 31 + 1, none⟩) (NM.low b (by omega))).trans q1
        have t2 := (World.cell?_of_block (a := ⟨b, off + k * 31 + 2, none⟩) (NM.low b (by omega))).trans q2
        have tn := (World.cell?_of_block (a := ⟨w.heap.size, 1, none⟩) (NM.low w.heap.size (by omega))).trans qn
        go_simp
        refine hK.out _ _ ⟨tn, t0, t1, t2⟩ (fun hHeld4 => ?_)
        clear hK K
        try simp only [Act.put]
        refine wpAnyH_done (by kernel_rfl) ?_ _
        go_simp
        clear hHeld hHeld1 hHeld2 hHeld3 hHeld4
        have U0 := Lib.hid (Z0.out.kept (NM.low _ (by omega)))
        have U1 := Lib.hid (Z1.out.kept (NM.low _ (by omega)))
        have U2 := Lib.hid NM.box
        have HO5 := Lib.hid NM.own
        have HB5 := Lib.hid NM.below
        have hsz5 : w.heap.size + 3 ≤ (w5.setCell ⟨w.heap.size + 1 + 1, 0, none⟩ (.slice A2 (k + 1) cap2)).heap.size := by have := NM.size; omega
        have HBK5 := Lib.hid NM.hi
        clear hown5 hg5 hloc NM Z0 Z1 Z2 HO2 HB2 HBK HSN q0 q1 q2 qn r0 r1 r2 rn t0 t1 t2 tn c0 f0 hk5 hn2 n1 m0 mz mz2 g0 g1 g2 HX0 HX1 HX2 HO HB
        go_wp2
        go_roundw
        case rel => exact ⟨k + 1, A2, cap2, by omega, by go_num, U0, U1, U2, HO5, HB5, hsz5, HBK5⟩
        case measure => simp [RowKit.intOf]; omega
      · go_simp
        refine hK.out _ _ ⟨qn, q0, q1, q2⟩ (fun hHeld1 => ?_)
        clear hK K
        try simp only [Act.put]
        refine wpAnyH_ready (rs := [1]) (by kernel_rfl) (by simp) ?_
        refine AllReadyH.cons rfl (fun K hK => ?_) AllReadyH.nil
        go_simp
        refine hK.out _ _ ⟨qn, q0, q1, q2⟩ (fun hHeld2 => ?_)
        clear hK K
        try simp only [Act.put]
        refine wpAnyH_ready (rs := [22]) (by kernel_rfl) (by simp) ?_
        refine AllReadyH.cons rfl (fun K hK => ?_) AllReadyH.nil
        refine step_append_fresh _ (by rfl) _ _ _ (by rfl) w.heap.size 140 i0 _ 11 168 Tryz.underlying92 hi hz0 hz1 hz2 rfl (by omega) (.slice D k cap) k _ (by rfl) HO2.out (.slice (some ⟨wr.heap.size, 0, none⟩) 1 1) 1 (kc (nameM x)) (by rfl) HSN.out (kc_one _) (by unfold maxLen; omega) (by omega) HB2.out.size ?_
        intro A2 cap2 w5 hown5 hg5 hloc
        rw [← HE.out] at hown5
        have NM := nm_more Z2.out hg5 HBK.out HB2.out (by omega) hown5 (by first | exact hloc | (rw [hsz3]; exact hloc))
        have hk5 : ∀ g, g < w.heap.size + 1 + 1 → w5.heap[g]? = (wr.drew.alloc (.cells #[.string x.name, .int .i64 x.kind, .string x.frm, .string ⟨#[]⟩, .string ⟨#[]⟩, .string ⟨#[]⟩, .string ⟨#[]⟩, .string ⟨#[]⟩, .string ⟨#[]⟩, .string ⟨#[]⟩, .string ⟨#[]⟩] 140)).heap[g]? := fun g hg => hg5.block g (Nat.lt_of_lt_of_le (show g < wr.heap.size by omega) hn2.size) (fun e => by have := HBK.out g e.symm; omega)
        have r0 := (World.cell?_of_block (a := ⟨b, off + k * 31, none⟩) (hk5 b (by omega))).trans q0
        have r1 := (World.cell?_of_block (a := ⟨b, off + k * 31 + 1, none⟩) (hk5 b (by omega))).trans q1
        have r2 := (World.cell?_of_block (a := ⟨b, off + k * 31 + 2, none⟩) (hk5 b (by omega))).trans q2
        have rn := (World.cell?_of_block (a := ⟨w.heap.size, 1, none⟩) (hk5 w.heap.size (by omega))).trans qn
        refine hK.out _ _ ⟨rn, r0, r1, r2⟩ (fun hHeld3 => ?_)
        clear hK K
        try simp only [Act.put]
        refine wpAnyH_take (i := 23) (v := ?_) rfl (by kernel_rfl) (by kernel_rfl) (by kernel_rfl) (fun _ _ _ h => h) (Or.inl ⟨by first | kernel_rfl | rfl, ?_⟩) (by assumption) ?_
        rotate_left
        · (intro w' hSw; (try dsimp only at hSw); go_simp; try with_reducible rfl)
        try simp only [Act.put]
        refine wpAnyH_ready (rs := [24]) (by kernel_rfl) (by simp) ?_
        refine AllReadyH.cons rfl (fun K hK => ?_) AllReadyH.nil
        have c0 := NM.c0
        have f0 := NM.f0
        have t0 := (World.cell?_of_block (a := ⟨b, off + k * 31, none⟩) (NM.low b (by omega))).trans q0
        have t1 := (World.cell?_of_block (a := ⟨b, off + k * 31 + 1, none⟩) (NM.low b (by omega))).trans q1
        have t2 := (World.cell?_of_block (a := ⟨b, off + k * 31 + 2, none⟩) (NM.low b (by omega))).trans q2
        have tn := (World.cell?_of_block (a := ⟨w.heap.size, 1, none⟩) (NM.low w.heap.size (by omega))).trans qn
        go_simp
        refine hK.out _ _ ⟨tn, t0, t1, t2⟩ (fun hHeld4 => ?_)
        clear hK K
        try simp only [Act.put]
        refine wpAnyH_done (by kernel_rfl) ?_ _
        go_simp
        clear hHeld hHeld1 hHeld2 hHeld3 hHeld4
        have U0 := Lib.hid (Z0.out.kept (NM.low _ (by omega)))
        have U1 := Lib.hid (Z1.out.kept (NM.low _ (by omega)))
        have U2 := Lib.hid NM.box
        have HO5 := Lib.hid NM.own
        have HB5 := Lib.hid NM.below
        have hsz5 : w.heap.size + 3 ≤ (w5.setCell ⟨w.heap.size + 1 + 1, 0, none⟩ (.slice A2 (k + 1) cap2)).heap.size := by have := NM.size; omega
        have HBK5 := Lib.hid NM.hi
        clear hown5 hg5 hloc NM Z0 Z1 Z2 HO2 HB2 HBK HSN q0 q1 q2 qn r0 r1 r2 rn t0 t1 t2 tn c0 f0 hk5 hn2 n1 m0 mz mz2 g0 g1 g2 HX0 HX1 HX2 HO HB
        go_wp2
        go_roundw
        case rel => exact ⟨k + 1, A2, cap2, by omega, by go_num, U0, U1, U2, HO5, HB5, hsz5, HBK5⟩
        case measure => simp [RowKit.intOf]; omega
    case neg =>
      have hkn : k = n := by omega
      subst hkn
      have HT := Lib.hid (show sets.take k = sets from List.take_of_length_le (by rw [HL.out]; omega))
      have c1 := HX2.out.cell 0 rfl
      have c2 := HX1.out.cell 0 rfl
      have f2 := HX1.out.open_ 0
      have U := Lib.hid (HX1.out.set 0 (.slice D k cap))
      have HO5 := Lib.hid (own_kept HO.out (w' := wr.setCell ⟨w.heap.size + 1, 0, none⟩ (.slice D k cap)) (fun b e => Below.heap_setCell wr _ _ b (fun e2 => by have := HBK.out b e; simp only at e2; omega)))
      have HB5 := Lib.hid (HB.out.setCell (p := ⟨w.heap.size + 1, 0, none⟩) (by simp) (.slice D k cap))
      clear HO HB HX1 HX2
      go_wp2
      refine bodyPost_ret (v := .agg #[.slice D k cap]) (results_box rfl _ (w.heap.size + 1) [.slice D k cap] aggBookD rfl rfl U.out) rfl ?_
      refine ⟨_, rfl, ?_, HB5.out⟩
      have h0 := HO5.out
      rw [HT.out] at h0
      rw [HL.out]
      exact h0
end Go.Proofs.YtobjgdnmlibofaaGreat
