/-
  The document's l6Sums and l6Names.
-/
import Derived.Test.YtobjgdnmlibofaaGreatSCt
import Derived.Test.YtobjgdnmlibofaaGreatSpecOk
set_option maxRecDepth 100000
namespace Go.Proofs.YtobjgdnmlibofaaGreat
open Go.ChangeShapes Go.WideShapes Go.ChangeAt Go.RowKit Go.Proofs.Palim

/-- A pointer is told by a table. -/
def ToldP (E : List EntM) (p : PtrM) : Prop := 0 < p.at_ → ∃ e, findE E p.at_ = some e ∧ e.sum = p.sum

set_option maxHeartbeats 8000000 in
theorem specSums_any (vs vd vp vi : Value) (c : CoreM) (w : World) (h : CoreR w vs vd vp vi c) (hs : CoreShort c) (hdok : DdtOkM c.ddt) :
    Calls Tryz.prog 59 #[cv c vs vd vp vi] w fun e w' => e = .returned (.bool (decide (SumsM c))) ∧ Below w.heap.size w w' := by
  obtain ⟨ok, HOK⟩ : ∃ ok, Hid (decide (SumsM c) = ok) := ⟨_, Lib.hid rfl⟩
  rw [HOK.out]
  obtain ⟨txg, sets, ddt, parts, dirty, safe, logn⟩ := c
  obtain ⟨A0, k0, A1, k1, A2, k2, A3, k3, e0, e1, e2, e3⟩ := h.forms
  dsimp only at e0 e1 e2 e3
  subst e0 e1 e2 e3
  have HRR := Lib.hid h
  have HS := Lib.hid h.s
  have HLS := Lib.hid h.ls
  have HD := Lib.hid h.d
  have HLD := Lib.hid h.ld
  obtain ⟨n, HL⟩ : ∃ n, Hid (sets.length = n) := ⟨_, Lib.hid rfl⟩
  obtain ⟨nd, HLDT⟩ : ∃ nd, Hid (ddt.length = nd) := ⟨_, Lib.hid rfl⟩
  have hln : n ≤ 1048576 := HL.out ▸ hs.s
  have hck := h.s.le
  clear h hs
  dsimp only at HS HLS HD HLD hck
  rw [HL.out] at HS HLS hck
  rw [HLDT.out] at HD HLD
  unfold maxLen at hck
  have XC := Lib.hid (show Box _ w.heap.size [.int .i64 txg, .slice A0 n k0, .slice A1 nd k1, .slice A2 parts.length k2, .bool dirty, .slice A3 safe.length k3, .int .i64 logn] from box_new w #[.int .i64 txg, .slice A0 n k0, .slice A1 nd k1, .slice A2 parts.length k2, .bool dirty, .slice A3 safe.length k3, .int .i64 logn] 44)
  have B0 := Lib.hid (Below.new1 (w := w) (.cells #[.int .i64 txg, .slice A0 n k0, .slice A1 nd k1, .slice A2 parts.length k2, .bool dirty, .slice A3 safe.length k3, .int .i64 logn] 44))
  have HDG := Lib.hid (show GoodE ddt ddt.length from hdok.2)
  have HFIN := Lib.hid (show (∀ (i : Nat) (h : i < sets.length), i < n → ∀ p ∈ sets[i].map, ToldP ddt p) → true = ok from fun hg => HOK.out ▸ (decide_eq_true (show SumsM _ from fun p hp hpa => by
    obtain ⟨x, hx, hpx⟩ := List.mem_flatMap.1 hp
    obtain ⟨i, hi, rfl⟩ := List.mem_iff_getElem.1 hx
    exact hg i hi (by have := HL.out; simp only at hi; omega) p hpx hpa)).symm)
  have HBAD := Lib.hid (show ∀ (i : Nat) (h : i < sets.length) (p : PtrM), p ∈ sets[i].map → ¬ ToldP ddt p → false = ok from fun i hi p hp hb => HOK.out ▸ (decide_eq_false (fun c : SumsM ⟨txg, sets, ddt, parts, dirty, safe, logn⟩ => hb (fun hpa => c p (List.mem_flatMap.2 ⟨sets[i], List.getElem_mem hi, hp⟩) hpa))).symm)
  clear hdok
  go_enter Tryz.func59, Tryz.ntmps59
  go_upto_region 1 with fail
  rw [HL.out, HLDT.out]
  obtain ⟨W0, HWE⟩ : ∃ W0, w.alloc (.cells #[.int .i64 txg, .slice A0 n k0, .slice A1 nd k1, .slice A2 parts.length k2, .bool dirty, .slice A3 safe.length k3, .int .i64 logn] 44) = W0 := ⟨_, rfl⟩
  rw [HWE] at XC B0 ⊢
  clear HWE
  have n1 := XC.out.cell 1 rfl
  have HD0 := Lib.hid (HD.out.below B0.out HLD.out)
  have HS0 := Lib.hid (HS.out.below B0.out HLS.out)
  have hlW := XC.out.lt
  go_wp2
  clear n1
  go_loopw [3, 4] (fun i _ wr => ∃ (k : Nat), k ≤ n ∧ i = .int .i64 k ∧ Hid (Below W0.heap.size W0 wr) ∧ Hid (∀ (i : Nat) (h : i < sets.length), i < k → ∀ p ∈ sets[i].map, ToldP ddt p)) (fun i _ _ => n - (RowKit.intOf i).toNat)
  case atStart => exact ⟨0, Nat.zero_le _, rfl, Lib.hid (Below.refl _ _), Lib.hid (fun j _ h => absurd h (Nat.not_lt_zero _))⟩
  case round =>
    obtain ⟨k, hk, rfl, HB, HG⟩ := hrel
    have n1 := (XC.out.below HB.out hlW).cell 1 rfl
    by_cases hlt : k < n
    case pos =>
      have hl0 : k < sets.length := by rw [HL.out]; exact hlt
      have hk1 : (k : Int) < (n : Int) := by omega
      go_wp2
      go_loopw [4, 5, 6, 7] (fun i _ _ _ wr => ∃ (j : Nat), j ≤ 8 ∧ i = .int .i64 j ∧ Hid (Below W0.heap.size W0 wr) ∧ Hid (∀ (i : Nat) (h : i < sets[k].map.length), i < j → ToldP ddt sets[k].map[i])) (fun i _ _ _ _ => 8 - (RowKit.intOf i).toNat)
      case atStart => exact ⟨0, Nat.zero_le _, rfl, HB, Lib.hid (fun j _ h => absurd h (Nat.not_lt_zero _))⟩
      case round =>
        clear HB n1
        obtain ⟨j, hj, rfl, HB, HJ⟩ := hrel
        have n1 := (XC.out.below HB.out hlW).cell 1 rfl
        by_cases hj8 : j < 8
        case pos =>
          have hjl : j < sets[k].map.length := by rw [sets[k].h8]; exact hj8
          obtain ⟨b, off, c', hvv, _, _, hcell⟩ := (HS0.out.below HB.out (fun b e => Nat.lt_of_lt_of_le (HLS.out b e) B0.out.size)).form (by omega)
          injection hvv with e1 e2 e3
          subst e1 e3
          clear e2
          obtain ⟨g0, g1, g2⟩ := pt_read hcell k hl0 j hjl
          have hj1 : (j : Int) < 8 := by omega
          have HBS := Lib.hid (show ¬ ToldP ddt sets[k].map[j] → false = ok from fun h => HBAD.out k hl0 _ (List.getElem_mem hjl) h)
          have HGS := Lib.hid (show ToldP ddt sets[k].map[j] → ∀ (i : Nat) (h : i < sets[k].map.length), i < j + 1 → ToldP ddt sets[k].map[i] from fun hg i hi hik => by
            by_cases e : i = j
            · subst e; exact hg
            · exact HJ.out i hi (by omega))
          generalize sets[k].map[j] = y at g0 g1 g2 HBS HGS
          have hn1 := Below.new1 (w := wr) (.cells #[.int .i64 y.at_, .int .i64 y.sum, .int .i64 y.birth] 86)
          have HXP := Lib.hid (box_new wr #[.int .i64 y.at_, .int .i64 y.sum, .int .i64 y.birth] 86)
          have HB1 := Lib.hid (HB.out.trans (hn1.mono HB.out.size))
          have n2 := (XC.out.below HB1.out hlW).cell 2 rfl
          have HD1 := Lib.hid (HD0.out.below HB1.out (fun b e => Nat.lt_of_lt_of_le (HLD.out b e) B0.out.size))
          have HLD1 := Lib.hid (fun b e => Nat.lt_of_lt_of_le (HLD.out b e) (Nat.le_trans B0.out.size HB1.out.size))
          clear hcell hn1 HJ
          go_wp2_with fail
          refine (l5At_any _ ddt y.at_ _ (by rw [HLDT.out]; exact HD1.out) HLD1.out).mono ?_
          rintro e w3 ⟨kk, rr, rfl, hat, hth, hb⟩
          have HAT := Lib.hid hat
          have HTH := Lib.hid hth
          obtain ⟨p0, p1, -⟩ := (HXP.out.below hb HXP.out.lt).three
          have HB3 := Lib.hid (HB1.out.trans (hb.mono HB1.out.size))
          have HD3 := Lib.hid (HD1.out.below hb HLD1.out)
          have n2 := (XC.out.below HB3.out hlW).cell 2 rfl
          clear hat hth hb HXP HB HB1 g0 g1 g2 HD1
          by_cases hy : 0 < y.at_
          case neg =>
            have HG1 := Lib.hid (HGS.out (fun h => absurd h hy))
            have hy2 : ¬ y.at_ > 0 := hy
            have hy3 : decide (y.at_ > 0) = false := decide_eq_false hy
            have hy4 : decide (0 < y.at_) = false := decide_eq_false hy
            clear HBS HGS HAT HTH
            go_wp2_with fail
            refine wp_region_held_drew (S := fun w' => w'.cell? ⟨wr.heap.size, 0, none⟩ = some (.int .i64 y.at_) ∧ w'.cell? ⟨wr.heap.size, 1, none⟩ = some (.int .i64 y.sum) ∧ w'.cell? ⟨w.heap.size, 2, none⟩ = some (.slice A1 nd k1)) (by kernel_rfl) ⟨p0, p1, n2⟩ (fun hHeld => ?_)
            refine wpAnyH_take (i := 0) (v := ?_) rfl (by kernel_rfl) (by kernel_rfl) (by kernel_rfl) (fun _ _ _ h => h) (Or.inl ⟨by first | kernel_rfl | rfl, ?_⟩) (by assumption) ?_
            rotate_left
            · (intro w' hSw; (try dsimp only at hSw); go_simp; try with_reducible rfl)
            try simp only [Act.put]
            refine wpAnyH_take (i := 1) (v := ?_) rfl (by kernel_rfl) (by kernel_rfl) (by kernel_rfl) (fun _ _ _ h => h) (Or.inl ⟨by first | kernel_rfl | rfl, ?_⟩) (by assumption) ?_
            rotate_left
            · (intro w' hSw; (try dsimp only at hSw); go_simp; try with_reducible rfl)
            try simp only [Act.put]
            refine wpAnyH_take (i := 2) (v := ?_) rfl (by kernel_rfl) (by kernel_rfl) (by kernel_rfl) (fun _ _ _ h => h) (Or.inl ⟨by first | kernel_rfl | rfl, ?_⟩) (by assumption) ?_
            rotate_left
            · (intro w' hSw; (try dsimp only at hSw); go_simp; try with_reducible rfl)
            try simp only [Act.put]
            refine wpAnyH_take (i := 3) (v := ?_) rfl (by kernel_rfl) (by kernel_rfl) (by kernel_rfl) (fun _ _ _ h => h) (Or.inl ⟨by first | kernel_rfl | rfl, ?_⟩) (by assumption) ?_
            rotate_left
            · (intro w' hSw; (try dsimp only at hSw); go_simp; try with_reducible rfl)
            try simp only [Act.put]
            refine wpAnyH_take (i := 4) (v := undef) rfl (by kernel_rfl) (by kernel_rfl) (by kernel_rfl) (fun _ _ _ h => h) (Or.inr ⟨by kernel_rfl, rfl⟩) (by assumption) ?_
            try simp only [Act.put]
            refine wpAnyH_take (i := 5) (v := undef) rfl (by kernel_rfl) (by kernel_rfl) (by kernel_rfl) (fun _ _ _ h => h) (Or.inr ⟨by kernel_rfl, rfl⟩) (by assumption) ?_
            try simp only [Act.put]
            refine wpAnyH_take (i := 6) (v := undef) rfl (by kernel_rfl) (by kernel_rfl) (by kernel_rfl) (fun _ _ _ h => h) (Or.inr ⟨by kernel_rfl, rfl⟩) (by assumption) ?_
            try simp only [Act.put]
            refine wpAnyH_take (i := 7) (v := undef) rfl (by kernel_rfl) (by kernel_rfl) (by kernel_rfl) (fun _ _ _ h => h) (Or.inr ⟨by kernel_rfl, rfl⟩) (by assumption) ?_
            try simp only [Act.put]
            refine wpAnyH_take (i := 8) (v := undef) rfl (by kernel_rfl) (by kernel_rfl) (by kernel_rfl) (fun _ _ _ h => h) (Or.inr ⟨by kernel_rfl, rfl⟩) (by assumption) ?_
            try simp only [Act.put]
            refine wpAnyH_take (i := 9) (v := undef) rfl (by kernel_rfl) (by kernel_rfl) (by kernel_rfl) (fun _ _ _ h => h) (Or.inr ⟨by kernel_rfl, rfl⟩) (by assumption) ?_
            try simp only [Act.put]
            refine wpAnyH_take (i := 10) (v := undef) rfl (by kernel_rfl) (by kernel_rfl) (by kernel_rfl) (fun _ _ _ h => h) (Or.inr ⟨by kernel_rfl, rfl⟩) (by assumption) ?_
            try simp only [Act.put]
            refine wpAnyH_take (i := 11) (v := undef) rfl (by kernel_rfl) (by kernel_rfl) (by kernel_rfl) (fun _ _ _ h => h) (Or.inr ⟨by kernel_rfl, rfl⟩) (by assumption) ?_
            try simp only [Act.put]
            refine wpAnyH_take (i := 12) (v := undef) rfl (by kernel_rfl) (by kernel_rfl) (by kernel_rfl) (fun _ _ _ h => h) (Or.inr ⟨by kernel_rfl, rfl⟩) (by assumption) ?_
            try simp only [Act.put]
            refine wpAnyH_take (i := 13) (v := undef) rfl (by kernel_rfl) (by kernel_rfl) (by kernel_rfl) (fun _ _ _ h => h) (Or.inr ⟨by kernel_rfl, rfl⟩) (by assumption) ?_
            try simp only [Act.put]
            refine wpAnyH_take (i := 14) (v := undef) rfl (by kernel_rfl) (by kernel_rfl) (by kernel_rfl) (fun _ _ _ h => h) (Or.inr ⟨by kernel_rfl, rfl⟩) (by assumption) ?_
            try simp only [Act.put]
            refine wpAnyH_take (i := 15) (v := undef) rfl (by kernel_rfl) (by kernel_rfl) (by kernel_rfl) (fun _ _ _ h => h) (Or.inr ⟨by kernel_rfl, rfl⟩) (by assumption) ?_
            try simp only [Act.put]
            refine wpAnyH_take (i := 16) (v := undef) rfl (by kernel_rfl) (by kernel_rfl) (by kernel_rfl) (fun _ _ _ h => h) (Or.inr ⟨by kernel_rfl, rfl⟩) (by assumption) ?_
            try simp only [Act.put]
            refine wpAnyH_take (i := 17) (v := ?_) rfl (by kernel_rfl) (by kernel_rfl) (by kernel_rfl) (fun _ _ _ h => h) (Or.inl ⟨by first | kernel_rfl | rfl, ?_⟩) (by assumption) ?_
            rotate_left
            · (intro w' hSw; (try dsimp only at hSw); go_simp; try with_reducible rfl)
            try simp only [Act.put]
            refine wpAnyH_done (by kernel_rfl) ?_ _
            go_simp
            clear hHeld
            have HB4 := Lib.hid HB3.out.drew
            clear HB3 p0 p1 n2
            go_wp2
            go_roundw
            case rel => exact ⟨j + 1, by omega, by go_num, HB4, HG1⟩
            case measure => simp [RowKit.intOf]; omega
          case pos =>
            have hy2 : y.at_ > 0 := hy
            have hy3 : decide (y.at_ > 0) = true := decide_eq_true hy
            have hy4 : decide (0 < y.at_) = true := decide_eq_true hy
            cases rr with
            | false =>
              have HF := Lib.hid (HBS.out (fun c => by
                obtain ⟨e, he, _⟩ := c hy
                rw [find_none (at_none HDG.out HAT.out (fun h => by have := HTH.out.2 h; cases this))] at he
                cases he))
              clear HBS HGS HAT HTH
              go_wp2_with fail
              refine wp_region_held_drew (S := fun w' => w'.cell? ⟨wr.heap.size, 0, none⟩ = some (.int .i64 y.at_) ∧ w'.cell? ⟨wr.heap.size, 1, none⟩ = some (.int .i64 y.sum) ∧ w'.cell? ⟨w.heap.size, 2, none⟩ = some (.slice A1 nd k1)) (by kernel_rfl) ⟨p0, p1, n2⟩ (fun hHeld => ?_)
              refine wpAnyH_take (i := 0) (v := ?_) rfl (by kernel_rfl) (by kernel_rfl) (by kernel_rfl) (fun _ _ _ h => h) (Or.inl ⟨by first | kernel_rfl | rfl, ?_⟩) (by assumption) ?_
              rotate_left
              · (intro w' hSw; (try dsimp only at hSw); go_simp; try with_reducible rfl)
              try simp only [Act.put]
              refine wpAnyH_take (i := 1) (v := ?_) rfl (by kernel_rfl) (by kernel_rfl) (by kernel_rfl) (fun _ _ _ h => h) (Or.inl ⟨by first | kernel_rfl | rfl, ?_⟩) (by assumption) ?_
              rotate_left
              · (intro w' hSw; (try dsimp only at hSw); go_simp; try with_reducible rfl)
              try simp only [Act.put]
              refine wpAnyH_take (i := 2) (v := ?_) rfl (by kernel_rfl) (by kernel_rfl) (by kernel_rfl) (fun _ _ _ h => h) (Or.inl ⟨by first | kernel_rfl | rfl, ?_⟩) (by assumption) ?_
              rotate_left
              · (intro w' hSw; (try dsimp only at hSw); go_simp; try with_reducible rfl)
              try simp only [Act.put]
              refine wpAnyH_take (i := 3) (v := ?_) rfl (by kernel_rfl) (by kernel_rfl) (by kernel_rfl) (fun _ _ _ h => h) (Or.inl ⟨by first | kernel_rfl | rfl, ?_⟩) (by assumption) ?_
              rotate_left
              · (intro w' hSw; (try dsimp only at hSw); go_simp; try with_reducible rfl)
              try simp only [Act.put]
              refine wpAnyH_take (i := 4) (v := ?_) rfl (by kernel_rfl) (by kernel_rfl) (by kernel_rfl) (fun _ _ _ h => h) (Or.inl ⟨by first | kernel_rfl | rfl, ?_⟩) (by assumption) ?_
              rotate_left
              · (intro w' hSw; (try dsimp only at hSw); go_simp; try with_reducible rfl)
              try simp only [Act.put]
              refine wpAnyH_take (i := 5) (v := ?_) rfl (by kernel_rfl) (by kernel_rfl) (by kernel_rfl) (fun _ _ _ h => h) (Or.inl ⟨by first | kernel_rfl | rfl, ?_⟩) (by assumption) ?_
              rotate_left
              · (intro w' hSw; (try dsimp only at hSw); go_simp; try with_reducible rfl)
              try simp only [Act.put]
              refine wpAnyH_take (i := 6) (v := ?_) rfl (by kernel_rfl) (by kernel_rfl) (by kernel_rfl) (fun _ _ _ h => h) (Or.inl ⟨by first | kernel_rfl | rfl, ?_⟩) (by assumption) ?_
              rotate_left
              · (intro w' hSw; (try dsimp only at hSw); go_simp; try with_reducible rfl)
              try simp only [Act.put]
              refine wpAnyH_take (i := 7) (v := undef) rfl (by kernel_rfl) (by kernel_rfl) (by kernel_rfl) (fun _ _ _ h => h) (Or.inr ⟨by kernel_rfl, rfl⟩) (by assumption) ?_
              try simp only [Act.put]
              refine wpAnyH_take (i := 8) (v := undef) rfl (by kernel_rfl) (by kernel_rfl) (by kernel_rfl) (fun _ _ _ h => h) (Or.inr ⟨by kernel_rfl, rfl⟩) (by assumption) ?_
              try simp only [Act.put]
              refine wpAnyH_take (i := 9) (v := undef) rfl (by kernel_rfl) (by kernel_rfl) (by kernel_rfl) (fun _ _ _ h => h) (Or.inr ⟨by kernel_rfl, rfl⟩) (by assumption) ?_
              try simp only [Act.put]
              refine wpAnyH_take (i := 10) (v := undef) rfl (by kernel_rfl) (by kernel_rfl) (by kernel_rfl) (fun _ _ _ h => h) (Or.inr ⟨by kernel_rfl, rfl⟩) (by assumption) ?_
              try simp only [Act.put]
              refine wpAnyH_take (i := 11) (v := undef) rfl (by kernel_rfl) (by kernel_rfl) (by kernel_rfl) (fun _ _ _ h => h) (Or.inr ⟨by kernel_rfl, rfl⟩) (by assumption) ?_
              try simp only [Act.put]
              refine wpAnyH_take (i := 12) (v := undef) rfl (by kernel_rfl) (by kernel_rfl) (by kernel_rfl) (fun _ _ _ h => h) (Or.inr ⟨by kernel_rfl, rfl⟩) (by assumption) ?_
              try simp only [Act.put]
              refine wpAnyH_take (i := 13) (v := undef) rfl (by kernel_rfl) (by kernel_rfl) (by kernel_rfl) (fun _ _ _ h => h) (Or.inr ⟨by kernel_rfl, rfl⟩) (by assumption) ?_
              try simp only [Act.put]
              refine wpAnyH_take (i := 14) (v := undef) rfl (by kernel_rfl) (by kernel_rfl) (by kernel_rfl) (fun _ _ _ h => h) (Or.inr ⟨by kernel_rfl, rfl⟩) (by assumption) ?_
              try simp only [Act.put]
              refine wpAnyH_take (i := 15) (v := undef) rfl (by kernel_rfl) (by kernel_rfl) (by kernel_rfl) (fun _ _ _ h => h) (Or.inr ⟨by kernel_rfl, rfl⟩) (by assumption) ?_
              try simp only [Act.put]
              refine wpAnyH_take (i := 16) (v := ?_) rfl (by kernel_rfl) (by kernel_rfl) (by kernel_rfl) (fun _ _ _ h => h) (Or.inl ⟨by first | kernel_rfl | rfl, ?_⟩) (by assumption) ?_
              rotate_left
              · (intro w' hSw; (try dsimp only at hSw); go_simp; try with_reducible rfl)
              try simp only [Act.put]
              refine wpAnyH_take (i := 17) (v := ?_) rfl (by kernel_rfl) (by kernel_rfl) (by kernel_rfl) (fun _ _ _ h => h) (Or.inl ⟨by first | kernel_rfl | rfl, ?_⟩) (by assumption) ?_
              rotate_left
              · (intro w' hSw; (try dsimp only at hSw); go_simp; try with_reducible rfl)
              try simp only [Act.put]
              refine wpAnyH_done (by kernel_rfl) ?_ _
              go_simp
              clear hHeld
              have HB4 := Lib.hid HB3.out.drew
              clear HB3 p0 p1 n2
              go_wp2
              go_ret
              exact ⟨ret_boolB HF.out, B0.out.trans (HB4.out.mono B0.out.size)⟩
            | true =>
              obtain ⟨hkk, hf⟩ := at_there HAT.out (HTH.out.1 rfl)
              have hkn : kk < nd := by rw [← HLDT.out]; exact hkk
              have hkn' : (kk : Int) < (nd : Int) := by omega
              obtain ⟨bd, od, cd, hvd, _, _, hdc⟩ := HD3.out.form (by omega)
              injection hvd with e1 e2 e3
              subst e1 e3
              clear e2
              obtain ⟨q0, -, -⟩ := ent_read hdc kk hkk
              have HTT := Lib.hid (show ToldP ddt y ↔ ddt[kk].sum = y.sum from ⟨fun c => by obtain ⟨e, he, hse⟩ := c hy; rw [hf] at he; rw [Option.some.inj he]; exact hse, fun h _ => ⟨_, hf, h⟩⟩)
              generalize ddt[kk].sum = es at q0 HTT
              clear hf hdc hkk HAT HTH
              by_cases hes : es = y.sum
              case neg =>
                have HF := Lib.hid (HBS.out (fun c => hes (HTT.out.1 c)))
                have hq1 : (es != y.sum) = true := by simpa using hes
                have hq2 : (es == y.sum) = false := by simpa using hes
                have hq3 : decide (es = y.sum) = false := by simpa using hes
                clear HBS HGS hes HTT
                go_wp2_with fail
                refine wp_region_held_drew (S := fun w' => w'.cell? ⟨wr.heap.size, 0, none⟩ = some (.int .i64 y.at_) ∧ w'.cell? ⟨wr.heap.size, 1, none⟩ = some (.int .i64 y.sum) ∧ w'.cell? ⟨w.heap.size, 2, none⟩ = some (.slice (some ⟨bd, od, none⟩) nd k1) ∧ w'.cell? ⟨bd, od + kk * 3, none⟩ = some (.int .i64 es)) (by kernel_rfl) ⟨p0, p1, n2, q0⟩ (fun hHeld => ?_)
                refine wpAnyH_take (i := 0) (v := ?_) rfl (by kernel_rfl) (by kernel_rfl) (by kernel_rfl) (fun _ _ _ h => h) (Or.inl ⟨by first | kernel_rfl | rfl, ?_⟩) (by assumption) ?_
                rotate_left
                · (intro w' hSw; (try dsimp only at hSw); go_simp; try with_reducible rfl)
                try simp only [Act.put]
                refine wpAnyH_take (i := 1) (v := ?_) rfl (by kernel_rfl) (by kernel_rfl) (by kernel_rfl) (fun _ _ _ h => h) (Or.inl ⟨by first | kernel_rfl | rfl, ?_⟩) (by assumption) ?_
                rotate_left
                · (intro w' hSw; (try dsimp only at hSw); go_simp; try with_reducible rfl)
                try simp only [Act.put]
                refine wpAnyH_take (i := 2) (v := ?_) rfl (by kernel_rfl) (by kernel_rfl) (by kernel_rfl) (fun _ _ _ h => h) (Or.inl ⟨by first | kernel_rfl | rfl, ?_⟩) (by assumption) ?_
                rotate_left
                · (intro w' hSw; (try dsimp only at hSw); go_simp; try with_reducible rfl)
                try simp only [Act.put]
                refine wpAnyH_take (i := 3) (v := ?_) rfl (by kernel_rfl) (by kernel_rfl) (by kernel_rfl) (fun _ _ _ h => h) (Or.inl ⟨by first | kernel_rfl | rfl, ?_⟩) (by assumption) ?_
                rotate_left
                · (intro w' hSw; (try dsimp only at hSw); go_simp; try with_reducible rfl)
                try simp only [Act.put]
                refine wpAnyH_take (i := 4) (v := ?_) rfl (by kernel_rfl) (by kernel_rfl) (by kernel_rfl) (fun _ _ _ h => h) (Or.inl ⟨by first | kernel_rfl | rfl, ?_⟩) (by assumption) ?_
                rotate_left
                · (intro w' hSw; (try dsimp only at hSw); go_simp; try with_reducible rfl)
                try simp only [Act.put]
                refine wpAnyH_take (i := 5) (v := ?_) rfl (by kernel_rfl) (by kernel_rfl) (by kernel_rfl) (fun _ _ _ h => h) (Or.inl ⟨by first | kernel_rfl | rfl, ?_⟩) (by assumption) ?_
                rotate_left
                · (intro w' hSw; (try dsimp only at hSw); go_simp; try with_reducible rfl)
                try simp only [Act.put]
                refine wpAnyH_take (i := 6) (v := ?_) rfl (by kernel_rfl) (by kernel_rfl) (by kernel_rfl) (fun _ _ _ h => h) (Or.inl ⟨by first | kernel_rfl | rfl, ?_⟩) (by assumption) ?_
                rotate_left
                · (intro w' hSw; (try dsimp only at hSw); go_simp; try with_reducible rfl)
                try simp only [Act.put]
                refine wpAnyH_take (i := 7) (v := ?_) rfl (by kernel_rfl) (by kernel_rfl) (by kernel_rfl) (fun _ _ _ h => h) (Or.inl ⟨by first | kernel_rfl | rfl, ?_⟩) (by assumption) ?_
                rotate_left
                · (intro w' hSw; (try dsimp only at hSw); go_simp; try with_reducible rfl)
                try simp only [Act.put]
                refine wpAnyH_take (i := 8) (v := ?_) rfl (by kernel_rfl) (by kernel_rfl) (by kernel_rfl) (fun _ _ _ h => h) (Or.inl ⟨by first | kernel_rfl | rfl, ?_⟩) (by assumption) ?_
                rotate_left
                · (intro w' hSw; (try dsimp only at hSw); go_simp; try with_reducible rfl)
                try simp only [Act.put]
                refine wpAnyH_take (i := 9) (v := ?_) rfl (by kernel_rfl) (by kernel_rfl) (by kernel_rfl) (fun _ _ _ h => h) (Or.inl ⟨by first | kernel_rfl | rfl, ?_⟩) (by assumption) ?_
                rotate_left
                · (intro w' hSw; (try dsimp only at hSw); go_simp; try with_reducible rfl)
                try simp only [Act.put]
                refine wpAnyH_take (i := 10) (v := ?_) rfl (by kernel_rfl) (by kernel_rfl) (by kernel_rfl) (fun _ _ _ h => h) (Or.inl ⟨by first | kernel_rfl | rfl, ?_⟩) (by assumption) ?_
                rotate_left
                · (intro w' hSw; (try dsimp only at hSw); go_simp; try with_reducible rfl)
                try simp only [Act.put]
                refine wpAnyH_take (i := 11) (v := ?_) rfl (by kernel_rfl) (by kernel_rfl) (by kernel_rfl) (fun _ _ _ h => h) (Or.inl ⟨by first | kernel_rfl | rfl, ?_⟩) (by assumption) ?_
                rotate_left
                · (intro w' hSw; (try dsimp only at hSw); go_simp; try with_reducible rfl)
                try simp only [Act.put]
                refine wpAnyH_take (i := 12) (v := ?_) rfl (by kernel_rfl) (by kernel_rfl) (by kernel_rfl) (fun _ _ _ h => h) (Or.inl ⟨by first | kernel_rfl | rfl, ?_⟩) (by assumption) ?_
                rotate_left
                · (intro w' hSw; (try dsimp only at hSw); go_simp; try with_reducible rfl)
                try simp only [Act.put]
                refine wpAnyH_take (i := 13) (v := ?_) rfl (by kernel_rfl) (by kernel_rfl) (by kernel_rfl) (fun _ _ _ h => h) (Or.inl ⟨by first | kernel_rfl | rfl, ?_⟩) (by assumption) ?_
                rotate_left
                · (intro w' hSw; (try dsimp only at hSw); go_simp; try with_reducible rfl)
                try simp only [Act.put]
                refine wpAnyH_take (i := 14) (v := ?_) rfl (by kernel_rfl) (by kernel_rfl) (by kernel_rfl) (fun _ _ _ h => h) (Or.inl ⟨by first | kernel_rfl | rfl, ?_⟩) (by assumption) ?_
                rotate_left
                · (intro w' hSw; (try dsimp only at hSw); go_simp; try with_reducible rfl)
                try simp only [Act.put]
                refine wpAnyH_take (i := 15) (v := ?_) rfl (by kernel_rfl) (by kernel_rfl) (by kernel_rfl) (fun _ _ _ h => h) (Or.inl ⟨by first | kernel_rfl | rfl, ?_⟩) (by assumption) ?_
                rotate_left
                · (intro w' hSw; (try dsimp only at hSw); go_simp; try with_reducible rfl)
                try simp only [Act.put]
                refine wpAnyH_take (i := 16) (v := ?_) rfl (by kernel_rfl) (by kernel_rfl) (by kernel_rfl) (fun _ _ _ h => h) (Or.inl ⟨by first | kernel_rfl | rfl, ?_⟩) (by assumption) ?_
                rotate_left
                · (intro w' hSw; (try dsimp only at hSw); go_simp; try with_reducible rfl)
                try simp only [Act.put]
                refine wpAnyH_take (i := 17) (v := ?_) rfl (by kernel_rfl) (by kernel_rfl) (by kernel_rfl) (fun _ _ _ h => h) (Or.inl ⟨by first | kernel_rfl | rfl, ?_⟩) (by assumption) ?_
                rotate_left
                · (intro w' hSw; (try dsimp only at hSw); go_simp; try with_reducible rfl)
                try simp only [Act.put]
                refine wpAnyH_done (by kernel_rfl) ?_ _
                go_simp
                clear hHeld
                have HB4 := Lib.hid HB3.out.drew
                clear HB3 p0 p1 n2 q0
                go_wp2
                go_ret
                exact ⟨ret_boolB HF.out, B0.out.trans (HB4.out.mono B0.out.size)⟩
              case pos =>
                have HG1 := Lib.hid (HGS.out (HTT.out.2 hes))
                have hq1 : (es != y.sum) = false := by simpa using hes
                have hq2 : (es == y.sum) = true := by simpa using hes
                have hq3 : decide (es = y.sum) = true := by simpa using hes
                clear HBS HGS hes HTT
                go_wp2_with fail
                refine wp_region_held_drew (S := fun w' => w'.cell? ⟨wr.heap.size, 0, none⟩ = some (.int .i64 y.at_) ∧ w'.cell? ⟨wr.heap.size, 1, none⟩ = some (.int .i64 y.sum) ∧ w'.cell? ⟨w.heap.size, 2, none⟩ = some (.slice (some ⟨bd, od, none⟩) nd k1) ∧ w'.cell? ⟨bd, od + kk * 3, none⟩ = some (.int .i64 es)) (by kernel_rfl) ⟨p0, p1, n2, q0⟩ (fun hHeld => ?_)
                refine wpAnyH_take (i := 0) (v := ?_) rfl (by kernel_rfl) (by kernel_rfl) (by kernel_rfl) (fun _ _ _ h => h) (Or.inl ⟨by first | kernel_rfl | rfl, ?_⟩) (by assumption) ?_
                rotate_left
                · (intro w' hSw; (try dsimp only at hSw); go_simp; try with_reducible rfl)
                try simp only [Act.put]
                refine wpAnyH_take (i := 1) (v := ?_) rfl (by kernel_rfl) (by kernel_rfl) (by kernel_rfl) (fun _ _ _ h => h) (Or.inl ⟨by first | kernel_rfl | rfl, ?_⟩) (by assumption) ?_
                rotate_left
                · (intro w' hSw; (try dsimp only at hSw); go_simp; try with_reducible rfl)
                try simp only [Act.put]
                refine wpAnyH_take (i := 2) (v := ?_) rfl (by kernel_rfl) (by kernel_rfl) (by kernel_rfl) (fun _ _ _ h => h) (Or.inl ⟨by first | kernel_rfl | rfl, ?_⟩) (by assumption) ?_
                rotate_left
                · (intro w' hSw; (try dsimp only at hSw); go_simp; try with_reducible rfl)
                try simp only [Act.put]
                refine wpAnyH_take (i := 3) (v := ?_) rfl (by kernel_rfl) (by kernel_rfl) (by kernel_rfl) (fun _ _ _ h => h) (Or.inl ⟨by first | kernel_rfl | rfl, ?_⟩) (by assumption) ?_
                rotate_left
                · (intro w' hSw; (try dsimp only at hSw); go_simp; try with_reducible rfl)
                try simp only [Act.put]
                refine wpAnyH_take (i := 4) (v := ?_) rfl (by kernel_rfl) (by kernel_rfl) (by kernel_rfl) (fun _ _ _ h => h) (Or.inl ⟨by first | kernel_rfl | rfl, ?_⟩) (by assumption) ?_
                rotate_left
                · (intro w' hSw; (try dsimp only at hSw); go_simp; try with_reducible rfl)
                try simp only [Act.put]
                refine wpAnyH_take (i := 5) (v := ?_) rfl (by kernel_rfl) (by kernel_rfl) (by kernel_rfl) (fun _ _ _ h => h) (Or.inl ⟨by first | kernel_rfl | rfl, ?_⟩) (by assumption) ?_
                rotate_left
                · (intro w' hSw; (try dsimp only at hSw); go_simp; try with_reducible rfl)
                try simp only [Act.put]
                refine wpAnyH_take (i := 6) (v := ?_) rfl (by kernel_rfl) (by kernel_rfl) (by kernel_rfl) (fun _ _ _ h => h) (Or.inl ⟨by first | kernel_rfl | rfl, ?_⟩) (by assumption) ?_
                rotate_left
                · (intro w' hSw; (try dsimp only at hSw); go_simp; try with_reducible rfl)
                try simp only [Act.put]
                refine wpAnyH_take (i := 7) (v := ?_) rfl (by kernel_rfl) (by kernel_rfl) (by kernel_rfl) (fun _ _ _ h => h) (Or.inl ⟨by first | kernel_rfl | rfl, ?_⟩) (by assumption) ?_
                rotate_left
                · (intro w' hSw; (try dsimp only at hSw); go_simp; try with_reducible rfl)
                try simp only [Act.put]
                refine wpAnyH_take (i := 8) (v := ?_) rfl (by kernel_rfl) (by kernel_rfl) (by kernel_rfl) (fun _ _ _ h => h) (Or.inl ⟨by first | kernel_rfl | rfl, ?_⟩) (by assumption) ?_
                rotate_left
                · (intro w' hSw; (try dsimp only at hSw); go_simp; try with_reducible rfl)
                try simp only [Act.put]
                refine wpAnyH_take (i := 9) (v := ?_) rfl (by kernel_rfl) (by kernel_rfl) (by kernel_rfl) (fun _ _ _ h => h) (Or.inl ⟨by first | kernel_rfl | rfl, ?_⟩) (by assumption) ?_
                rotate_left
                · (intro w' hSw; (try dsimp only at hSw); go_simp; try with_reducible rfl)
                try simp only [Act.put]
                refine wpAnyH_take (i := 10) (v := ?_) rfl (by kernel_rfl) (by kernel_rfl) (by kernel_rfl) (fun _ _ _ h => h) (Or.inl ⟨by first | kernel_rfl | rfl, ?_⟩) (by assumption) ?_
                rotate_left
                · (intro w' hSw; (try dsimp only at hSw); go_simp; try with_reducible rfl)
                try simp only [Act.put]
                refine wpAnyH_take (i := 11) (v := ?_) rfl (by kernel_rfl) (by kernel_rfl) (by kernel_rfl) (fun _ _ _ h => h) (Or.inl ⟨by first | kernel_rfl | rfl, ?_⟩) (by assumption) ?_
                rotate_left
                · (intro w' hSw; (try dsimp only at hSw); go_simp; try with_reducible rfl)
                try simp only [Act.put]
                refine wpAnyH_take (i := 12) (v := ?_) rfl (by kernel_rfl) (by kernel_rfl) (by kernel_rfl) (fun _ _ _ h => h) (Or.inl ⟨by first | kernel_rfl | rfl, ?_⟩) (by assumption) ?_
                rotate_left
                · (intro w' hSw; (try dsimp only at hSw); go_simp; try with_reducible rfl)
                try simp only [Act.put]
                refine wpAnyH_take (i := 13) (v := ?_) rfl (by kernel_rfl) (by kernel_rfl) (by kernel_rfl) (fun _ _ _ h => h) (Or.inl ⟨by first | kernel_rfl | rfl, ?_⟩) (by assumption) ?_
                rotate_left
                · (intro w' hSw; (try dsimp only at hSw); go_simp; try with_reducible rfl)
                try simp only [Act.put]
                refine wpAnyH_take (i := 14) (v := ?_) rfl (by kernel_rfl) (by kernel_rfl) (by kernel_rfl) (fun _ _ _ h => h) (Or.inl ⟨by first | kernel_rfl | rfl, ?_⟩) (by assumption) ?_
                rotate_left
                · (intro w' hSw; (try dsimp only at hSw); go_simp; try with_reducible rfl)
                try simp only [Act.put]
                refine wpAnyH_take (i := 15) (v := ?_) rfl (by kernel_rfl) (by kernel_rfl) (by kernel_rfl) (fun _ _ _ h => h) (Or.inl ⟨by first | kernel_rfl | rfl, ?_⟩) (by assumption) ?_
                rotate_left
                · (intro w' hSw; (try dsimp only at hSw); go_simp; try with_reducible rfl)
                try simp only [Act.put]
                refine wpAnyH_take (i := 16) (v := ?_) rfl (by kernel_rfl) (by kernel_rfl) (by kernel_rfl) (fun _ _ _ h => h) (Or.inl ⟨by first | kernel_rfl | rfl, ?_⟩) (by assumption) ?_
                rotate_left
                · (intro w' hSw; (try dsimp only at hSw); go_simp; try with_reducible rfl)
                try simp only [Act.put]
                refine wpAnyH_take (i := 17) (v := ?_) rfl (by kernel_rfl) (by kernel_rfl) (by kernel_rfl) (fun _ _ _ h => h) (Or.inl ⟨by first | kernel_rfl | rfl, ?_⟩) (by assumption) ?_
                rotate_left
                · (intro w' hSw; (try dsimp only at hSw); go_simp; try with_reducible rfl)
                try simp only [Act.put]
                refine wpAnyH_done (by kernel_rfl) ?_ _
                go_simp
                clear hHeld
                have HB4 := Lib.hid HB3.out.drew
                clear HB3 p0 p1 n2 q0
                go_wp2
                go_roundw
                case rel => exact ⟨j + 1, by omega, by go_num, HB4, HG1⟩
                case measure => simp [RowKit.intOf]; omega
        case neg =>
          have HG1 := Lib.hid (show ∀ (i : Nat) (h : i < sets.length), i < k + 1 → ∀ p ∈ sets[i].map, ToldP ddt p from fun i hi hik => by
            by_cases e : i = k
            · subst e
              intro p hp
              obtain ⟨q, hq, rfl⟩ := List.mem_iff_getElem.1 hp
              exact HJ.out q hq (by rw [sets[i].h8] at hq; omega)
            · exact HG.out i hi (by omega))
          have hjj : ¬ (j : Int) < 8 := by omega
          clear HJ HG
          go_wp2
          go_roundw
          case rel => exact ⟨k + 1, by omega, by go_num, HB, HG1⟩
          case measure => simp [RowKit.intOf]; omega
    case neg =>
      have HF := Lib.hid (HFIN.out (fun i hi _ => HG.out i hi (by have := HL.out; omega)))
      go_wp2
      go_ret
      exact ⟨ret_boolB HF.out, B0.out.trans (HB.out.mono B0.out.size)⟩
theorem specSums_is (vs vd vp vi : Value) (c : CoreM) (r : Bool) (w : World) (h : CoreR w vs vd vp vi c) (hs : CoreShort c) (hdok : DdtOkM c.ddt) (hr : decide (SumsM c) = r) :
    Calls Tryz.prog 59 #[cv c vs vd vp vi] w fun e w' => e = .returned (.bool r) ∧ Below w.heap.size w w' := hr ▸ specSums_any vs vd vp vi c w h hs hdok
end Go.Proofs.YtobjgdnmlibofaaGreat
