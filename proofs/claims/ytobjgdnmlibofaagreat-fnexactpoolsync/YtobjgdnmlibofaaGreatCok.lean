/-
  Texts joined into one.
-/
import Derived.Test.YtobjgdnmlibofaaGreatNames
import Derived.Test.YtobjgdnmlibofaaGreatMath
import Derived.BigQuiet
import Derived.Test.YtobjgdnmlibofaaGreatDdtOk
import Derived.Ground.GgzProg
import Derived.Ground.SlgmProg
import Derived.Shelf.SlIterI.Nil
import Derived.Shelf.SortM.Plain
import Derived.Shelf.SortM.SortNone
import Derived.Test.YtobjgdnmlibofaaGreatProg
import Derived.Test.YtobjgdnmlibofaaGreatData
import Derived.Test.YtobjgdnmlibofaaGreatBase
import Derived.Test.YtobjgdnmlibofaaGreatSetEq

/-
  The document's l6Sums and l6Names.
-/
set_option maxRecDepth 100000
namespace Go.Proofs.YtobjgdnmlibofaaGreat
open Go.ChangeShapes Go.WideShapes Go.ChangeAt Go.RowKit Go.Proofs.Palim

/-- A pointer is told by a table. -/
def ToldP (E : List EntM) (p : PtrM) : Prop := 0 < p.at_ → ∃ e, findE E p.at_ = some e ∧ e.sum = p.sum

set_option maxHeartbeats 8000000 in
theorem specSums_any (vs vd vp vi : Value) (c : CoreM) (w : World) (h : CoreR w vs vd vp vi c) (hs : CoreShort c) (hdok : DdtOkM c.ddt) :
    Calls Tryz.prog 59 #[cv c vs vd vp vi] w fun e w' => e = .returned (.bool (decide (SumsM c))) ∧ Below w.heap.size w w' := by
  obtain ⟨ok, HOK⟩ : ∃ ok, Hid (decide (SumsM c) = ok) := ⟨_, Lib.hid rfl⟩
  rw [HOK.out]
  obtain ⟨txg, sets, ddt, parts, dirty, safe, logn⟩ := c
  obtain ⟨A0, k0, A1, k1, A2, k2, A3, k3, e0, e1, e2, e3⟩ := h.forms
  dsimp only at e0 e1 e2 e3
  subst e0 e1 e2 e3
  have HRR := Lib.hid h
  have HS := Lib.hid h.s
  have HLS := Lib.hid h.ls
  have HD := Lib.hid h.d
  have HLD := Lib.hid h.ld
  obtain ⟨n, HL⟩ : ∃ n, Hid (sets.length = n) := ⟨_, Lib.hid rfl⟩
  obtain ⟨nd, HLDT⟩ : ∃ nd, Hid (ddt.length = nd) := ⟨_, Lib.hid rfl⟩
  have hln : n ≤ 1048576 := HL.out ▸ hs.s
  have hck := h.s.le
  clear h hs
  dsimp only at HS HLS HD HLD hck
  rw [HL.out] at HS HLS hck
  rw [HLDT.out] at HD HLD
  unfold maxLen at hck
  have XC := Lib.hid (show Box _ w.heap.size [.int .i64 txg, .slice A0 n k0, .slice A1 nd k1, .slice A2 parts.length k2, .bool dirty, .slice A3 safe.length k3, .int .i64 logn] from box_new w #[.int .i64 txg, .slice A0 n k0, .slice A1 nd k1, .slice A2 parts.length k2, .bool dirty, .slice A3 safe.length k3, .int .i64 logn] 44)
  have B0 := Lib.hid (Below.new1 (w := w) (.cells #[.int .i64 txg, .slice A0 n k0, .slice A1 nd k1, .slice A2 parts.length k2, .bool dirty, .slice A3 safe.length k3, .int .i64 logn] 44))
  have HDG := Lib.hid (show GoodE ddt ddt.length from hdok.2)
  have HFIN := Lib.hid (show (∀ (i : Nat) (h : i < sets.length), i < n → ∀ p ∈ sets[i].map, ToldP ddt p) → true = ok from fun hg => HOK.out ▸ (decide_eq_true (show SumsM _ from fun p hp hpa => by
    obtain ⟨x, hx, hpx⟩ := List.mem_flatMap.1 hp
    obtain ⟨i, hi, rfl⟩ := List.mem_iff_getElem.1 hx
    exact hg i hi (by have := HL.out; simp only at hi; omega) p hpx hpa)).symm)
  have HBAD := Lib.hid (show ∀ (i : Nat) (h : i < sets.length) (p : PtrM), p ∈ sets[i].map → ¬ ToldP ddt p → false = ok from fun i hi p hp hb => HOK.out ▸ (decide_eq_false (fun c : SumsM ⟨txg, sets, ddt, parts, dirty, safe, logn⟩ => hb (fun hpa => c p (List.mem_flatMap.2 ⟨sets[i], List.getElem_mem hi, hp⟩) hpa))).symm)
  clear hdok
  go_enter Tryz.func59, Tryz.ntmps59
  go_upto_region 1 with fail
  rw [HL.out, HLDT.out]
  obtain ⟨W0, HWE⟩ : ∃ W0, w.alloc (.cells #[.int .i64 txg, .slice A0 n k0, .slice A1 nd k1, .slice A2 parts.length k2, .bool dirty, .slice A3 safe.length k3, .int .i64 logn] 44) = W0 := ⟨_, rfl⟩
  rw [HWE] at XC B0 ⊢
  clear HWE
  have n1 := XC.out.cell 1 rfl
  have HD0 := Lib.hid (HD.out.below B0.out HLD.out)
  have HS0 := Lib.hid (HS.out.below B0.out HLS.out)
  have hlW := XC.out.lt
  go_wp2
  clear n1
  go_loopw [3, 4] (fun i _ wr => ∃ (k : Nat), k ≤ n ∧ i = .int .i64 k ∧ Hid (Below W0.heap.size W0 wr) ∧ Hid (∀ (i : Nat) (h : i < sets.length), i < k → ∀ p ∈ sets[i].map, ToldP ddt p)) (fun i _ _ => n - (RowKit.intOf i).toNat)
  case atStart => exact ⟨0, Nat.zero_le _, rfl, Lib.hid (Below.refl _ _), Lib.hid (fun j _ h => absurd h (Nat.not_lt_zero _))⟩
  case round =>
    obtain ⟨k, hk, rfl, HB, HG⟩ := hrel
    have n1 := (XC.out.below HB.out hlW).cell 1 rfl
    by_cases hlt : k < n
    case pos =>
      have hl0 : k < sets.length := by rw [HL.out]; exact hlt
      have hk1 : (k : Int) < (n : Int) := by omega
      go_wp2
      go_loopw [4, 5, 6, 7] (fun i _ _ _ wr => ∃ (j : Nat), j ≤ 8 ∧ i = .int .i64 j ∧ Hid (Below W0.heap.size W0 wr) ∧ Hid (∀ (i : Nat) (h : i < sets[k].map.length), i < j → ToldP ddt sets[k].map[i])) (fun i _ _ _ _ => 8 - (RowKit.intOf i).toNat)
      case atStart => exact ⟨0, Nat.zero_le _, rfl, HB, Lib.hid (fun j _ h => absurd h (Nat.not_lt_zero _))⟩
      case round =>
        clear HB n1
        obtain ⟨j, hj, rfl, HB, HJ⟩ := hrel
        have n1 := (XC.out.below HB.out hlW).cell 1 rfl
        by_cases hj8 : j < 8
        case pos =>
          have hjl : j < sets[k].map.length := by rw [sets[k].h8]; exact hj8
          obtain ⟨b, off, c', hvv, _, _, hcell⟩ := (HS0.out.below HB.out (fun b e => Nat.lt_of_lt_of_le (HLS.out b e) B0.out.size)).form (by omega)
          injection hvv with e1 e2 e3
          subst e1 e3
          clear e2
          obtain ⟨g0, g1, g2⟩ := pt_read hcell k hl0 j hjl
          have hj1 : (j : Int) < 8 := by omega
          have HBS := Lib.hid (show ¬ ToldP ddt sets[k].map[j] → false = ok from fun h => HBAD.out k hl0 _ (List.getElem_mem hjl) h)
          have HGS := Lib.hid (show ToldP ddt sets[k].map[j] → ∀ (i : Nat) (h : i < sets[k].map.length), i < j + 1 → ToldP ddt sets[k].map[i] from fun hg i hi hik => by
            by_cases e : i = j
            · subst e; exact hg
            · exact HJ.out i hi (by omega))
          generalize sets[k].map[j] = y at g0 g1 g2 HBS HGS
          have hn1 := Below.new1 (w := wr) (.cells #[.int .i64 y.at_, .int .i64 y.sum, .int .i64 y.birth] 86)
          have HXP := Lib.hid (box_new wr #[.int .i64 y.at_, .int .i64 y.sum, .int .i64 y.birth] 86)
          have HB1 := Lib.hid (HB.out.trans (hn1.mono HB.out.size))
          have n2 := (XC.out.below HB1.out hlW).cell 2 rfl
          have HD1 := Lib.hid (HD0.out.below HB1.out (fun b e => Nat.lt_of_lt_of_le (HLD.out b e) B0.out.size))
          have HLD1 := Lib.hid (fun b e => Nat.lt_of_lt_of_le (HLD.out b e) (Nat.le_trans B0.out.size HB1.out.size))
          clear hcell hn1 HJ
          go_wp2_with fail
          refine (l5At_any _ ddt y.at_ _ (by rw [HLDT.out]; exact HD1.out) HLD1.out).mono ?_
          rintro e w3 ⟨kk, rr, rfl, hat, hth, hb⟩
          have HAT := Lib.hid hat
          have HTH := Lib.hid hth
          obtain ⟨p0, p1, -⟩ := (HXP.out.below hb HXP.out.lt).three
          have HB3 := Lib.hid (HB1.out.trans (hb.mono HB1.out.size))
          have HD3 := Lib.hid (HD1.out.below hb HLD1.out)
          have n2 := (XC.out.below HB3.out hlW).cell 2 rfl
          clear hat hth hb HXP HB HB1 g0 g1 g2 HD1
          by_cases hy : 0 < y.at_
          case neg =>
            have HG1 := Lib.hid (HGS.out (fun h => absurd h hy))
            have hy2 : ¬ y.at_ > 0 := hy
            have hy3 : decide (y.at_ > 0) = false := decide_eq_false hy
            have hy4 : decide (0 < y.at_) = false := decide_eq_false hy
            clear HBS HGS HAT HTH
            go_wp2_with fail
            refine wp_region_held_drew (S := fun w' => w'.cell? ⟨wr.heap.size, 0, none⟩ = some (.int .i64 y.at_) ∧ w'.cell? ⟨wr.heap.size, 1, none⟩ = some (.int .i64 y.sum) ∧ w'.cell? ⟨w.heap.size, 2, none⟩ = some (.slice A1 nd k1)) (by kernel_rfl) ⟨p0, p1, n2⟩ (fun hHeld => ?_)
            refine wpAnyH_take (i := 0) (v := ?_) rfl (by kernel_rfl) (by kernel_rfl) (by kernel_rfl) (fun _ _ _ h => h) (Or.inl ⟨by first | kernel_rfl | rfl, ?_⟩) (by assumption) ?_
            rotate_left
            · (intro w' hSw; (try dsimp only at hSw); go_simp; try with_reducible rfl)
            try simp only [Act.put]
            refine wpAnyH_take (i := 1) (v := ?_) rfl (by kernel_rfl) (by kernel_rfl) (by kernel_rfl) (fun _ _ _ h => h) (Or.inl ⟨by first | kernel_rfl | rfl, ?_⟩) (by assumption) ?_
            rotate_left
            · (intro w' hSw; (try dsimp only at hSw); go_simp; try with_reducible rfl)
            try simp only [Act.put]
            refine wpAnyH_take (i := 2) (v := ?_) rfl (by kernel_rfl) (by kernel_rfl) (by kernel_rfl) (fun _ _ _ h => h) (Or.inl ⟨by first | kernel_rfl | rfl, ?_⟩) (by assumption) ?_
            rotate_left
            · (intro w' hSw; (try dsimp only at hSw); go_simp; try with_reducible rfl)
            try simp only [Act.put]
            refine wpAnyH_take (i := 3) (v := ?_) rfl (by kernel_rfl) (by kernel_rfl) (by kernel_rfl) (fun _ _ _ h => h) (Or.inl ⟨by first | kernel_rfl | rfl, ?_⟩) (by assumption) ?_
            rotate_left
            · (intro w' hSw; (try dsimp only at hSw); go_simp; try with_reducible rfl)
            try simp only [Act.put]
            refine wpAnyH_take (i := 4) (v := undef) rfl (by kernel_rfl) (by kernel_rfl) (by kernel_rfl) (fun _ _ _ h => h) (Or.inr ⟨by kernel_rfl, rfl⟩) (by assumption) ?_
            try simp only [Act.put]
            refine wpAnyH_take (i := 5) (v := undef) rfl (by kernel_rfl) (by kernel_rfl) (by kernel_rfl) (fun _ _ _ h => h) (Or.inr ⟨by kernel_rfl, rfl⟩) (by assumption) ?_
            try simp only [Act.put]
            refine wpAnyH_take (i := 6) (v := undef) rfl (by kernel_rfl) (by kernel_rfl) (by kernel_rfl) (fun _ _ _ h => h) (Or.inr ⟨by kernel_rfl, rfl⟩) (by assumption) ?_
            try simp only [Act.put]
            refine wpAnyH_take (i := 7) (v := undef) rfl (by kernel_rfl) (by kernel_rfl) (by kernel_rfl) (fun _ _ _ h => h) (Or.inr ⟨by kernel_rfl, rfl⟩) (by assumption) ?_
            try simp only [Act.put]
            refine wpAnyH_take (i := 8) (v := undef) rfl (by kernel_rfl) (by kernel_rfl) (by kernel_rfl) (fun _ _ _ h => h) (Or.inr ⟨by kernel_rfl, rfl⟩) (by assumption) ?_
            try simp only [Act.put]
            refine wpAnyH_take (i := 9) (v := undef) rfl (by kernel_rfl) (by kernel_rfl) (by kernel_rfl) (fun _ _ _ h => h) (Or.inr ⟨by kernel_rfl, rfl⟩) (by assumption) ?_
            try simp only [Act.put]
            refine wpAnyH_take (i := 10) (v := undef) rfl (by kernel_rfl) (by kernel_rfl) (by kernel_rfl) (fun _ _ _ h => h) (Or.inr ⟨by kernel_rfl, rfl⟩) (by assumption) ?_
            try simp only [Act.put]
            refine wpAnyH_take (i := 11) (v := undef) rfl (by kernel_rfl) (by kernel_rfl) (by kernel_rfl) (fun _ _ _ h => h) (Or.inr ⟨by kernel_rfl, rfl⟩) (by assumption) ?_
            try simp only [Act.put]
            refine wpAnyH_take (i := 12) (v := undef) rfl (by kernel_rfl) (by kernel_rfl) (by kernel_rfl) (fun _ _ _ h => h) (Or.inr ⟨by kernel_rfl, rfl⟩) (by assumption) ?_
            try simp only [Act.put]
            refine wpAnyH_take (i := 13) (v := undef) rfl (by kernel_rfl) (by kernel_rfl) (by kernel_rfl) (fun _ _ _ h => h) (Or.inr ⟨by kernel_rfl, rfl⟩) (by assumption) ?_
            try simp only [Act.put]
            refine wpAnyH_take (i := 14) (v := undef) rfl (by kernel_rfl) (by kernel_rfl) (by kernel_rfl) (fun _ _ _ h => h) (Or.inr ⟨by kernel_rfl, rfl⟩) (by assumption) ?_
            try simp only [Act.put]
            refine wpAnyH_take (i := 15) (v := undef) rfl (by kernel_rfl) (by kernel_rfl) (by kernel_rfl) (fun _ _ _ h => h) (Or.inr ⟨by kernel_rfl, rfl⟩) (by assumption) ?_
            try simp only [Act.put]
            refine wpAnyH_take (i := 16) (v := undef) rfl (by kernel_rfl) (by kernel_rfl) (by kernel_rfl) (fun _ _ _ h => h) (Or.inr ⟨by kernel_rfl, rfl⟩) (by assumption) ?_
            try simp only [Act.put]
            refine wpAnyH_take (i := 17) (v := ?_) rfl (by kernel_rfl) (by kernel_rfl) (by kernel_rfl) (fun _ _ _ h => h) (Or.inl ⟨by first | kernel_rfl | rfl, ?_⟩) (by assumption) ?_
            rotate_left
            · (intro w' hSw; (try dsimp only at hSw); go_simp; try with_reducible rfl)
            try simp only [Act.put]
            refine wpAnyH_done (by kernel_rfl) ?_ _
            go_simp
            clear hHeld
            have HB4 := Lib.hid HB3.out.drew
            clear HB3 p0 p1 n2
            go_wp2
            go_roundw
            case rel => exact ⟨j + 1, by omega, by go_num, HB4, HG1⟩
            case measure => simp [RowKit.intOf]; omega
          case pos =>
            have hy2 : y.at_ > 0 := hy
            have hy3 : decide (y.at_ > 0) = true := decide_eq_true hy
            have hy4 : decide (0 < y.at_) = true := decide_eq_true hy
            cases rr with
            | false =>
              have HF := Lib.hid (HBS.out (fun c => by
                obtain ⟨e, he, _⟩ := c hy
                rw [find_none (at_none HDG.out HAT.out (fun h => by have := HTH.out.2 h; cases this))] at he
                cases he))
              clear HBS HGS HAT HTH
              go_wp2_with fail
              refine wp_region_held_drew (S := fun w' => w'.cell? ⟨wr.heap.size, 0, none⟩ = some (.int .i64 y.at_) ∧ w'.cell? ⟨wr.heap.size, 1, none⟩ = some (.int .i64 y.sum) ∧ w'.cell? ⟨w.heap.size, 2, none⟩ = some (.slice A1 nd k1)) (by kernel_rfl) ⟨p0, p1, n2⟩ (fun hHeld => ?_)
              refine wpAnyH_take (i := 0) (v := ?_) rfl (by kernel_rfl) (by kernel_rfl) (by kernel_rfl) (fun _ _ _ h => h) (Or.inl ⟨by first | kernel_rfl | rfl, ?_⟩) (by assumption) ?_
              rotate_left
              · (intro w' hSw; (try dsimp only at hSw); go_simp; try with_reducible rfl)
              try simp only [Act.put]
              refine wpAnyH_take (i := 1) (v := ?_) rfl (by kernel_rfl) (by kernel_rfl) (by kernel_rfl) (fun _ _ _ h => h) (Or.inl ⟨by first | kernel_rfl | rfl, ?_⟩) (by assumption) ?_
              rotate_left
              · (intro w' hSw; (try dsimp only at hSw); go_simp; try with_reducible rfl)
              try simp only [Act.put]
              refine wpAnyH_take (i := 2) (v := ?_) rfl (by kernel_rfl) (by kernel_rfl) (by kernel_rfl) (fun _ _ _ h => h) (Or.inl ⟨by first | kernel_rfl | rfl, ?_⟩) (by assumption) ?_
              rotate_left
              · (intro w' hSw; (try dsimp only at hSw); go_simp; try with_reducible rfl)
              try simp only [Act.put]
              refine wpAnyH_take (i := 3) (v := ?_) rfl (by kernel_rfl) (by kernel_rfl) (by kernel_rfl) (fun _ _ _ h => h) (Or.inl ⟨by first | kernel_rfl | rfl, ?_⟩) (by assumption) ?_
              rotate_left
              · (intro w' hSw; (try dsimp only at hSw); go_simp; try with_reducible rfl)
              try simp only [Act.put]
              refine wpAnyH_take (i := 4) (v := ?_) rfl (by kernel_rfl) (by kernel_rfl) (by kernel_rfl) (fun _ _ _ h => h) (Or.inl ⟨by first | kernel_rfl | rfl, ?_⟩) (by assumption) ?_
              rotate_left
              · (intro w' hSw; (try dsimp only at hSw); go_simp; try with_reducible rfl)
              try simp only [Act.put]
              refine wpAnyH_take (i := 5) (v := ?_) rfl (by kernel_rfl) (by kernel_rfl) (by kernel_rfl) (fun _ _ _ h => h) (Or.inl ⟨by first | kernel_rfl | rfl, ?_⟩) (by assumption) ?_
              rotate_left
              · (intro w' hSw; (try dsimp only at hSw); go_simp; try with_reducible rfl)
              try simp only [Act.put]
              refine wpAnyH_take (i := 6) (v := ?_) rfl (by kernel_rfl) (by kernel_rfl) (by kernel_rfl) (fun _ _ _ h => h) (Or.inl ⟨by first | kernel_rfl | rfl, ?_⟩) (by assumption) ?_
              rotate_left
              · (intro w' hSw; (try dsimp only at hSw); go_simp; try with_reducible rfl)
              try simp only [Act.put]
              refine wpAnyH_take (i := 7) (v := undef) rfl (by kernel_rfl) (by kernel_rfl) (by kernel_rfl) (fun _ _ _ h => h) (Or.inr ⟨by kernel_rfl, rfl⟩) (by assumption) ?_
              try simp only [Act.put]
              refine wpAnyH_take (i := 8) (v := undef) rfl (by kernel_rfl) (by kernel_rfl) (by kernel_rfl) (fun _ _ _ h => h) (Or.inr ⟨by kernel_rfl, rfl⟩) (by assumption) ?_
              try simp only [Act.put]
              refine wpAnyH_take (i := 9) (v := undef) rfl (by kernel_rfl) (by kernel_rfl) (by kernel_rfl) (fun _ _ _ h => h) (Or.inr ⟨by kernel_rfl, rfl⟩) (by assumption) ?_
              try simp only [Act.put]
              refine wpAnyH_take (i := 10) (v := undef) rfl (by kernel_rfl) (by kernel_rfl) (by kernel_rfl) (fun _ _ _ h => h) (Or.inr ⟨by kernel_rfl, rfl⟩) (by assumption) ?_
              try simp only [Act.put]
              refine wpAnyH_take (i := 11) (v := undef) rfl (by kernel_rfl) (by kernel_rfl) (by kernel_rfl) (fun _ _ _ h => h) (Or.inr ⟨by kernel_rfl, rfl⟩) (by assumption) ?_
              try simp only [Act.put]
              refine wpAnyH_take (i := 12) (v := undef) rfl (by kernel_rfl) (by kernel_rfl) (by kernel_rfl) (fun _ _ _ h => h) (Or.inr ⟨by kernel_rfl, rfl⟩) (by assumption) ?_
              try simp only [Act.put]
              refine wpAnyH_take (i := 13) (v := undef) rfl (by kernel_rfl) (by kernel_rfl) (by kernel_rfl) (fun _ _ _ h => h) (Or.inr ⟨by kernel_rfl, rfl⟩) (by assumption) ?_
              try simp only [Act.put]
              refine wpAnyH_take (i := 14) (v := undef) rfl (by kernel_rfl) (by kernel_rfl) (by kernel_rfl) (fun _ _ _ h => h) (Or.inr ⟨by kernel_rfl, rfl⟩) (by assumption) ?_
              try simp only [Act.put]
              refine wpAnyH_take (i := 15) (v := undef) rfl (by kernel_rfl) (by kernel_rfl) (by kernel_rfl) (fun _ _ _ h => h) (Or.inr ⟨by kernel_rfl, rfl⟩) (by assumption) ?_
              try simp only [Act.put]
              refine wpAnyH_take (i := 16) (v := ?_) rfl (by kernel_rfl) (by kernel_rfl) (by kernel_rfl) (fun _ _ _ h => h) (Or.inl ⟨by first | kernel_rfl | rfl, ?_⟩) (by assumption) ?_
              rotate_left
              · (intro w' hSw; (try dsimp only at hSw); go_simp; try with_reducible rfl)
              try simp only [Act.put]
              refine wpAnyH_take (i := 17) (v := ?_) rfl (by kernel_rfl) (by kernel_rfl) (by kernel_rfl) (fun _ _ _ h => h) (Or.inl ⟨by first | kernel_rfl | rfl, ?_⟩) (by assumption) ?_
              rotate_left
              · (intro w' hSw; (try dsimp only at hSw); go_simp; try with_reducible rfl)
              try simp only [Act.put]
              refine wpAnyH_done (by kernel_rfl) ?_ _
              go_simp
              clear hHeld
              have HB4 := Lib.hid HB3.out.drew
              clear HB3 p0 p1 n2
              go_wp2
              go_ret
              exact ⟨ret_boolB HF.out, B0.out.trans (HB4.out.mono B0.out.size)⟩
            | true =>
              obtain ⟨hkk, hf⟩ := at_there HAT.out (HTH.out.1 rfl)
              have hkn : kk < nd := by rw [← HLDT.out]; exact hkk
              have hkn' : (kk : Int) < (nd : Int) := by omega
              obtain ⟨bd, od, cd, hvd, _, _, hdc⟩ := HD3.out.form (by omega)
              injection hvd with e1 e2 e3
              subst e1 e3
              clear e2
              obtain ⟨q0, -, -⟩ := ent_read hdc kk hkk
              have HTT := Lib.hid (show ToldP ddt y ↔ ddt[kk].sum = y.sum from ⟨fun c => by obtain ⟨e, he, hse⟩ := c hy; rw [hf] at he; rw [Option.some.inj he]; exact hse, fun h _ => ⟨_, hf, h⟩⟩)
              generalize ddt[kk].sum = es at q0 HTT
              clear hf hdc hkk HAT HTH
              by_cases hes : es = y.sum
              case neg =>
                have HF := Lib.hid (HBS.out (fun c => hes (HTT.out.1 c)))
                have hq1 : (es != y.sum) = true := by simpa using hes
                have hq2 : (es == y.sum) = false := by simpa using hes
                have hq3 : decide (es = y.sum) = false := by simpa using hes
                clear HBS HGS hes HTT
                go_wp2_with fail
                refine wp_region_held_drew (S := fun w' => w'.cell? ⟨wr.heap.size, 0, none⟩ = some (.int .i64 y.at_) ∧ w'.cell? ⟨wr.heap.size, 1, none⟩ = some (.int .i64 y.sum) ∧ w'.cell? ⟨w.heap.size, 2, none⟩ = some (.slice (some ⟨bd, od, none⟩) nd k1) ∧ w'.cell? ⟨bd, od + kk * 3, none⟩ = some (.int .i64 es)) (by kernel_rfl) ⟨p0, p1, n2, q0⟩ (fun hHeld => ?_)
                refine wpAnyH_take (i := 0) (v := ?_) rfl (by kernel_rfl) (by kernel_rfl) (by kernel_rfl) (fun _ _ _ h => h) (Or.inl ⟨by first | kernel_rfl | rfl, ?_⟩) (by assumption) ?_
                rotate_left
                · (intro w' hSw; (try dsimp only at hSw); go_simp; try with_reducible rfl)
                try simp only [Act.put]
                refine wpAnyH_take (i := 1) (v := ?_) rfl (by kernel_rfl) (by kernel_rfl) (by kernel_rfl) (fun _ _ _ h => h) (Or.inl ⟨by first | kernel_rfl | rfl, ?_⟩) (by assumption) ?_
                rotate_left
                · (intro w' hSw; (try dsimp only at hSw); go_simp; try with_reducible rfl)
                try simp only [Act.put]
                refine wpAnyH_take (i := 2) (v := ?_) rfl (by kernel_rfl) (by kernel_rfl) (by kernel_rfl) (fun _ _ _ h => h) (Or.inl ⟨by first | kernel_rfl | rfl, ?_⟩) (by assumption) ?_
                rotate_left
                · (intro w' hSw; (try dsimp only at hSw); go_simp; try with_reducible rfl)
                try simp only [Act.put]
                refine wpAnyH_take (i := 3) (v := ?_) rfl (by kernel_rfl) (by kernel_rfl) (by kernel_rfl) (fun _ _ _ h => h) (Or.inl ⟨by first | kernel_rfl | rfl, ?_⟩) (by assumption) ?_
                rotate_left
                · (intro w' hSw; (try dsimp only at hSw); go_simp; try with_reducible rfl)
                try simp only [Act.put]
                refine wpAnyH_take (i := 4) (v := ?_) rfl (by kernel_rfl) (by kernel_rfl) (by kernel_rfl) (fun _ _ _ h => h) (Or.inl ⟨by first | kernel_rfl | rfl, ?_⟩) (by assumption) ?_
                rotate_left
                · (intro w' hSw; (try dsimp only at hSw); go_simp; try with_reducible rfl)
                try simp only [Act.put]
                refine wpAnyH_take (i := 5) (v := ?_) rfl (by kernel_rfl) (by kernel_rfl) (by kernel_rfl) (fun _ _ _ h => h) (Or.inl ⟨by first | kernel_rfl | rfl, ?_⟩) (by assumption) ?_
                rotate_left
                · (intro w' hSw; (try dsimp only at hSw); go_simp; try with_reducible rfl)
                try simp only [Act.put]
                refine wpAnyH_take (i := 6) (v := ?_) rfl (by kernel_rfl) (by kernel_rfl) (by kernel_rfl) (fun _ _ _ h => h) (Or.inl ⟨by first | kernel_rfl | rfl, ?_⟩) (by assumption) ?_
                rotate_left
                · (intro w' hSw; (try dsimp only at hSw); go_simp; try with_reducible rfl)
                try simp only [Act.put]
                refine wpAnyH_take (i := 7) (v := ?_) rfl (by kernel_rfl) (by kernel_rfl) (by kernel_rfl) (fun _ _ _ h => h) (Or.inl ⟨by first | kernel_rfl | rfl, ?_⟩) (by assumption) ?_
                rotate_left
                · (intro w' hSw; (try dsimp only at hSw); go_simp; try with_reducible rfl)
                try simp only [Act.put]
                refine wpAnyH_take (i := 8) (v := ?_) rfl (by kernel_rfl) (by kernel_rfl) (by kernel_rfl) (fun _ _ _ h => h) (Or.inl ⟨by first | kernel_rfl | rfl, ?_⟩) (by assumption) ?_
                rotate_left
                · (intro w' hSw; (try dsimp only at hSw); go_simp; try with_reducible rfl)
                try simp only [Act.put]
                refine wpAnyH_take (i := 9) (v := ?_) rfl (by kernel_rfl) (by kernel_rfl) (by kernel_rfl) (fun _ _ _ h => h) (Or.inl ⟨by first | kernel_rfl | rfl, ?_⟩) (by assumption) ?_
                rotate_left
                · (intro w' hSw; (try dsimp only at hSw); go_simp; try with_reducible rfl)
                try simp only [Act.put]
                refine wpAnyH_take (i := 10) (v := ?_) rfl (by kernel_rfl) (by kernel_rfl) (by kernel_rfl) (fun _ _ _ h => h) (Or.inl ⟨by first | kernel_rfl | rfl, ?_⟩) (by assumption) ?_
                rotate_left
                · (intro w' hSw; (try dsimp only at hSw); go_simp; try with_reducible rfl)
                try simp only [Act.put]
                refine wpAnyH_take (i := 11) (v := ?_) rfl (by kernel_rfl) (by kernel_rfl) (by kernel_rfl) (fun _ _ _ h => h) (Or.inl ⟨by first | kernel_rfl | rfl, ?_⟩) (by assumption) ?_
                rotate_left
                · (intro w' hSw; (try dsimp only at hSw); go_simp; try with_reducible rfl)
                try simp only [Act.put]
                refine wpAnyH_take (i := 12) (v := ?_) rfl (by kernel_rfl) (by kernel_rfl) (by kernel_rfl) (fun _ _ _ h => h) (Or.inl ⟨by first | kernel_rfl | rfl, ?_⟩) (by assumption) ?_
                rotate_left
                · (intro w' hSw; (try dsimp only at hSw); go_simp; try with_reducible rfl)
                try simp only [Act.put]
                refine wpAnyH_take (i := 13) (v := ?_) rfl (by kernel_rfl) (by kernel_rfl) (by kernel_rfl) (fun _ _ _ h => h) (Or.inl ⟨by first | kernel_rfl | rfl, ?_⟩) (by assumption) ?_
                rotate_left
                · (intro w' hSw; (try dsimp only at hSw); go_simp; try with_reducible rfl)
                try simp only [Act.put]
                refine wpAnyH_take (i := 14) (v := ?_) rfl (by kernel_rfl) (by kernel_rfl) (by kernel_rfl) (fun _ _ _ h => h) (Or.inl ⟨by first | kernel_rfl | rfl, ?_⟩) (by assumption) ?_
                rotate_left
                · (intro w' hSw; (try dsimp only at hSw); go_simp; try with_reducible rfl)
                try simp only [Act.put]
                refine wpAnyH_take (i := 15) (v := ?_) rfl (by kernel_rfl) (by kernel_rfl) (by kernel_rfl) (fun _ _ _ h => h) (Or.inl ⟨by first | kernel_rfl | rfl, ?_⟩) (by assumption) ?_
                rotate_left
                · (intro w' hSw; (try dsimp only at hSw); go_simp; try with_reducible rfl)
                try simp only [Act.put]
                refine wpAnyH_take (i := 16) (v := ?_) rfl (by kernel_rfl) (by kernel_rfl) (by kernel_rfl) (fun _ _ _ h => h) (Or.inl ⟨by first | kernel_rfl | rfl, ?_⟩) (by assumption) ?_
                rotate_left
                · (intro w' hSw; (try dsimp only at hSw); go_simp; try with_reducible rfl)
                try simp only [Act.put]
                refine wpAnyH_take (i := 17) (v := ?_) rfl (by kernel_rfl) (by kernel_rfl) (by kernel_rfl) (fun _ _ _ h => h) (Or.inl ⟨by first | kernel_rfl | rfl, ?_⟩) (by assumption) ?_
                rotate_left
                · (intro w' hSw; (try dsimp only at hSw); go_simp; try with_reducible rfl)
                try simp only [Act.put]
                refine wpAnyH_done (by kernel_rfl) ?_ _
                go_simp
                clear hHeld
                have HB4 := Lib.hid HB3.out.drew
                clear HB3 p0 p1 n2 q0
                go_wp2
                go_ret
                exact ⟨ret_boolB HF.out, B0.out.trans (HB4.out.mono B0.out.size)⟩
              case pos =>
                have HG1 := Lib.hid (HGS.out (HTT.out.2 hes))
                have hq1 : (es != y.sum) = false := by simpa using hes
                have hq2 : (es == y.sum) = true := by simpa using hes
                have hq3 : decide (es = y.sum) = true := by simpa using hes
                clear HBS HGS hes HTT
                go_wp2_with fail
                refine wp_region_held_drew (S := fun w' => w'.cell? ⟨wr.heap.size, 0, none⟩ = some (.int .i64 y.at_) ∧ w'.cell? ⟨wr.heap.size, 1, none⟩ = some (.int .i64 y.sum) ∧ w'.cell? ⟨w.heap.size, 2, none⟩ = some (.slice (some ⟨bd, od, none⟩) nd k1) ∧ w'.cell? ⟨bd, od + kk * 3, none⟩ = some (.int .i64 es)) (by kernel_rfl) ⟨p0, p1, n2, q0⟩ (fun hHeld => ?_)
                refine wpAnyH_take (i := 0) (v := ?_) rfl (by kernel_rfl) (by kernel_rfl) (by kernel_rfl) (fun _ _ _ h => h) (Or.inl ⟨by first | kernel_rfl | rfl, ?_⟩) (by assumption) ?_
                rotate_left
                · (intro w' hSw; (try dsimp only at hSw); go_simp; try with_reducible rfl)
                try simp only [Act.put]
                refine wpAnyH_take (i := 1) (v := ?_) rfl (by kernel_rfl) (by kernel_rfl) (by kernel_rfl) (fun _ _ _ h => h) (Or.inl ⟨by first | kernel_rfl | rfl, ?_⟩) (by assumption) ?_
                rotate_left
                · (intro w' hSw; (try dsimp only at hSw); go_simp; try with_reducible rfl)
                try simp only [Act.put]
                refine wpAnyH_take (i := 2) (v := ?_) rfl (by kernel_rfl) (by kernel_rfl) (by kernel_rfl) (fun _ _ _ h => h) (Or.inl ⟨by first | kernel_rfl | rfl, ?_⟩) (by assumption) ?_
                rotate_left
                · (intro w' hSw; (try dsimp only at hSw); go_simp; try with_reducible rfl)
                try simp only [Act.put]
                refine wpAnyH_take (i := 3) (v := ?_) rfl (by kernel_rfl) (by kernel_rfl) (by kernel_rfl) (fun _ _ _ h => h) (Or.inl ⟨by first | kernel_rfl | rfl, ?_⟩) (by assumption) ?_
                rotate_left
                · (intro w' hSw; (try dsimp only at hSw); go_simp; try with_reducible rfl)
                try simp only [Act.put]
                refine wpAnyH_take (i := 4) (v := ?_) rfl (by kernel_rfl) (by kernel_rfl) (by kernel_rfl) (fun _ _ _ h => h) (Or.inl ⟨by first | kernel_rfl | rfl, ?_⟩) (by assumption) ?_
                rotate_left
                · (intro w' hSw; (try dsimp only at hSw); go_simp; try with_reducible rfl)
                try simp only [Act.put]
                refine wpAnyH_take (i := 5) (v := ?_) rfl (by kernel_rfl) (by kernel_rfl) (by kernel_rfl) (fun _ _ _ h => h) (Or.inl ⟨by first | kernel_rfl | rfl, ?_⟩) (by assumption) ?_
                rotate_left
                · (intro w' hSw; (try dsimp only at hSw); go_simp; try with_reducible rfl)
                try simp only [Act.put]
                refine wpAnyH_take (i := 6) (v := ?_) rfl (by kernel_rfl) (by kernel_rfl) (by kernel_rfl) (fun _ _ _ h => h) (Or.inl ⟨by first | kernel_rfl | rfl, ?_⟩) (by assumption) ?_
                rotate_left
                · (intro w' hSw; (try dsimp only at hSw); go_simp; try with_reducible rfl)
                try simp only [Act.put]
                refine wpAnyH_take (i := 7) (v := ?_) rfl (by kernel_rfl) (by kernel_rfl) (by kernel_rfl) (fun _ _ _ h => h) (Or.inl ⟨by first | kernel_rfl | rfl, ?_⟩) (by assumption) ?_
                rotate_left
                · (intro w' hSw; (try dsimp only at hSw); go_simp; try with_reducible rfl)
                try simp only [Act.put]
                refine wpAnyH_take (i := 8) (v := ?_) rfl (by kernel_rfl) (by kernel_rfl) (by kernel_rfl) (fun _ _ _ h => h) (Or.inl ⟨by first | kernel_rfl | rfl, ?_⟩) (by assumption) ?_
                rotate_left
                · (intro w' hSw; (try dsimp only at hSw); go_simp; try with_reducible rfl)
                try simp only [Act.put]
                refine wpAnyH_take (i := 9) (v := ?_) rfl (by kernel_rfl) (by kernel_rfl) (by kernel_rfl) (fun _ _ _ h => h) (Or.inl ⟨by first | kernel_rfl | rfl, ?_⟩) (by assumption) ?_
                rotate_left
                · (intro w' hSw; (try dsimp only at hSw); go_simp; try with_reducible rfl)
                try simp only [Act.put]
                refine wpAnyH_take (i := 10) (v := ?_) rfl (by kernel_rfl) (by kernel_rfl) (by kernel_rfl) (fun _ _ _ h => h) (Or.inl ⟨by first | kernel_rfl | rfl, ?_⟩) (by assumption) ?_
                rotate_left
                · (intro w' hSw; (try dsimp only at hSw); go_simp; try with_reducible rfl)
                try simp only [Act.put]
                refine wpAnyH_take (i := 11) (v := ?_) rfl (by kernel_rfl) (by kernel_rfl) (by kernel_rfl) (fun _ _ _ h => h) (Or.inl ⟨by first | kernel_rfl | rfl, ?_⟩) (by assumption) ?_
                rotate_left
                · (intro w' hSw; (try dsimp only at hSw); go_simp; try with_reducible rfl)
                try simp only [Act.put]
                refine wpAnyH_take (i := 12) (v := ?_) rfl (by kernel_rfl) (by kernel_rfl) (by kernel_rfl) (fun _ _ _ h => h) (Or.inl ⟨by first | kernel_rfl | rfl, ?_⟩) (by assumption) ?_
                rotate_left
                · (intro w' hSw; (try dsimp only at hSw); go_simp; try with_reducible rfl)
                try simp only [Act.put]
                refine wpAnyH_take (i := 13) (v := ?_) rfl (by kernel_rfl) (by kernel_rfl) (by kernel_rfl) (fun _ _ _ h => h) (Or.inl ⟨by first | kernel_rfl | rfl, ?_⟩) (by assumption) ?_
                rotate_left
                · (intro w' hSw; (try dsimp only at hSw); go_simp; try with_reducible rfl)
                try simp only [Act.put]
                refine wpAnyH_take (i := 14) (v := ?_) rfl (by kernel_rfl) (by kernel_rfl) (by kernel_rfl) (fun _ _ _ h => h) (Or.inl ⟨by first | kernel_rfl | rfl, ?_⟩) (by assumption) ?_
                rotate_left
                · (intro w' hSw; (try dsimp only at hSw); go_simp; try with_reducible rfl)
                try simp only [Act.put]
                refine wpAnyH_take (i := 15) (v := ?_) rfl (by kernel_rfl) (by kernel_rfl) (by kernel_rfl) (fun _ _ _ h => h) (Or.inl ⟨by first | kernel_rfl | rfl, ?_⟩) (by assumption) ?_
                rotate_left
                · (intro w' hSw; (try dsimp only at hSw); go_simp; try with_reducible rfl)
                try simp only [Act.put]
                refine wpAnyH_take (i := 16) (v := ?_) rfl (by kernel_rfl) (by kernel_rfl) (by kernel_rfl) (fun _ _ _ h => h) (Or.inl ⟨by first | kernel_rfl | rfl, ?_⟩) (by assumption) ?_
                rotate_left
                · (intro w' hSw; (try dsimp only at hSw); go_simp; try with_reducible rfl)
                try simp only [Act.put]
                refine wpAnyH_take (i := 17) (v := ?_) rfl (by kernel_rfl) (by kernel_rfl) (by kernel_rfl) (fun _ _ _ h => h) (Or.inl ⟨by first | kernel_rfl | rfl, ?_⟩) (by assumption) ?_
                rotate_left
                · (intro w' hSw; (try dsimp only at hSw); go_simp; try with_reducible rfl)
                try simp only [Act.put]
                refine wpAnyH_done (by kernel_rfl) ?_ _
                go_simp
                clear hHeld
                have HB4 := Lib.hid HB3.out.drew
                clear HB3 p0 p1 n2 q0
                go_wp2
                go_roundw
                case rel => exact ⟨j + 1, by omega, by go_num, HB4, HG1⟩
                case measure => simp [RowKit.intOf]; omega
        case neg =>
          have HG1 := Lib.hid (show ∀ (i : Nat) (h : i < sets.length), i < k + 1 → ∀ p ∈ sets[i].map, ToldP ddt p from fun i hi hik => by
            by_cases e : i = k
            · subst e
              intro p hp
              obtain ⟨q, hq, rfl⟩ := List.mem_iff_getElem.1 hp
              exact HJ.out q hq (by rw [sets[i].h8] at hq; omega)
            · exact HG.out i hi (by omega))
          have hjj : ¬ (j : Int) < 8 := by omega
          clear HJ HG
          go_wp2
          go_roundw
          case rel => exact ⟨k + 1, by omega, by go_num, HB, HG1⟩
          case measure => simp [RowKit.intOf]; omega
    case neg =>
      have HF := Lib.hid (HFIN.out (fun i hi _ => HG.out i hi (by have := HL.out; omega)))
      go_wp2
      go_ret
      exact ⟨ret_boolB HF.out, B0.out.trans (HB.out.mono B0.out.size)⟩
theorem specSums_is (vs vd vp vi : Value) (c : CoreM) (r : Bool) (w : World) (h : CoreR w vs vd vp vi c) (hs : CoreShort c) (hdok : DdtOkM c.ddt) (hr : decide (SumsM c) = r) :
    Calls Tryz.prog 59 #[cv c vs vd vp vi] w fun e w' => e = .returned (.bool r) ∧ Below w.heap.size w w' := hr ▸ specSums_any vs vd vp vi c w h hs hdok
end Go.Proofs.YtobjgdnmlibofaaGreat

/-
  The document's l6Places.
-/
set_option maxRecDepth 100000
namespace Go.Proofs.YtobjgdnmlibofaaGreat
open Go.ChangeShapes Go.WideShapes Go.ChangeAt Go.RowKit Go.Proofs.Palim

set_option maxHeartbeats 8000000 in
theorem specPlaces_any (v : Value) (ls : List Int) (w : World) (h : Sl w 1 v ls.length (ics ls)) (hv : Low w.heap.size v) :
    Calls Tryz.prog 53 #[v] w fun e w' => e = .returned (.bool (decide (PlacesM ls))) ∧ Below w.heap.size w w' := by
  obtain ⟨ok, HOK⟩ : ∃ ok, Hid (decide (PlacesM ls) = ok) := ⟨_, Lib.hid rfl⟩
  rw [HOK.out]
  obtain ⟨n, HL⟩ : ∃ n, Hid (ls.length = n) := ⟨_, Lib.hid rfl⟩
  rw [HL.out] at h
  have hnm := h.le
  unfold maxLen at hnm
  have hfin : ∀ k, GoodP ls k → n ≤ k → true = ok := fun k hk hkn => HOK.out ▸ (decide_eq_true (show PlacesM ls from fun j hj h' => hk j hj (by have := HL.out; omega))).symm
  have HFIN := Lib.hid hfin
  clear hfin
  by_cases hn0 : n = 0
  · subst hn0
    have HF := Lib.hid (HFIN.out 0 (fun j _ h => absurd h (Nat.not_lt_zero _)) (Nat.le_refl _))
    obtain ⟨_, A, c, rfl, _, _, _⟩ := h
    go_enter Tryz.func53, Tryz.ntmps53
    go_wp2
    go_loopw [3] (fun i wr => i = .int .i64 0 ∧ wr = w) (fun _ _ => 0)
    case atStart => exact ⟨rfl, rfl⟩
    case round =>
      obtain ⟨rfl, rfl⟩ := hrel
      go_wp2
      go_ret
      exact ⟨ret_boolB HF.out, Below.refl _ _⟩
  obtain ⟨b, off, c, rfl, hnc, hcm, hcell⟩ := h.form (by omega)
  have hbl : b < w.heap.size := hv b rfl
  have HC := Lib.hid hcell
  unfold maxLen at hcm
  clear hcell h hv
  go_enter Tryz.func53, Tryz.ntmps53
  go_wp2
  go_loopw [3] (fun i wr => ∃ (k : Nat), k ≤ n ∧ i = .int .i64 k ∧ Hid (Below w.heap.size w wr) ∧ Hid (GoodP ls k)) (fun i _ => n - (RowKit.intOf i).toNat)
  case atStart => exact ⟨0, Nat.zero_le _, rfl, Lib.hid (Below.refl _ _), Lib.hid (fun j _ h => absurd h (Nat.not_lt_zero _))⟩
  case round =>
    obtain ⟨k, hk, rfl, HW, HG⟩ := hrel
    by_cases hlt : k < n
    case pos =>
      have hl0 : k < ls.length := by rw [HL.out]; exact hlt
      have g0 := (HW.out.cell hbl).trans (HC.out k _ (ics_at ls k hl0))
      have hk1 : (k : Int) < (n : Int) := by omega
      have HBS := Lib.hid (show ¬ (13 ≤ ls[k] ∧ ls[k] < 120) → false = ok from fun h => HOK.out ▸ (decide_eq_false (fun c => h (c k hl0 hl0).1)).symm)
      have HGS := Lib.hid (fun h1 h2 => goodP_succ HG.out hl0 h1 h2)
      by_cases hk0 : k = 0
      case pos =>
        subst hk0
        rw [Nat.add_zero] at g0
        generalize ls[0] = y at g0 HBS HGS
        by_cases hr : 13 ≤ y ∧ y < 120
        case neg =>
          have HF := Lib.hid (HBS.out hr)
          have hr2 : y < 13 ∨ (¬ y < 13 ∧ y ≥ 120) := by omega
          clear hr HBS HGS
          rcases hr2 with h1 | ⟨h1, h2⟩
          · have d1 : decide (y < 13) = true := decide_eq_true h1
            go_wp2_with fail
            refine wp_region_held_drew (S := fun w' => w'.cell? ⟨b, off, none⟩ = some (.int .i64 y)) (by kernel_rfl) g0 (fun hHeld => ?_)
            refine wpAnyH_take (i := 0) (v := ?_) rfl (by kernel_rfl) (by kernel_rfl) (by kernel_rfl) (fun _ _ _ h => h) (Or.inl ⟨by first | kernel_rfl | rfl, ?_⟩) (by assumption) ?_
            rotate_left
            · (intro w' hSw; (try dsimp only at hSw); go_simp; try with_reducible rfl)
            try simp only [Act.put]
            refine wpAnyH_take (i := 1) (v := ?_) rfl (by kernel_rfl) (by kernel_rfl) (by kernel_rfl) (fun _ _ _ h => h) (Or.inl ⟨by first | kernel_rfl | rfl, ?_⟩) (by assumption) ?_
            rotate_left
            · (intro w' hSw; (try dsimp only at hSw); go_simp; try with_reducible rfl)
            try simp only [Act.put]
            refine wpAnyH_take (i := 2) (v := ?_) rfl (by kernel_rfl) (by kernel_rfl) (by kernel_rfl) (fun _ _ _ h => h) (Or.inl ⟨by first | kernel_rfl | rfl, ?_⟩) (by assumption) ?_
            rotate_left
            · (intro w' hSw; (try dsimp only at hSw); go_simp; try with_reducible rfl)
            try simp only [Act.put]
            refine wpAnyH_take (i := 3) (v := ?_) rfl (by kernel_rfl) (by kernel_rfl) (by kernel_rfl) (fun _ _ _ h => h) (Or.inl ⟨by first | kernel_rfl | rfl, ?_⟩) (by assumption) ?_
            rotate_left
            · (intro w' hSw; (try dsimp only at hSw); go_simp; try with_reducible rfl)
            try simp only [Act.put]
            refine wpAnyH_take (i := 4) (v := ?_) rfl (by kernel_rfl) (by kernel_rfl) (by kernel_rfl) (fun _ _ _ h => h) (Or.inl ⟨by first | kernel_rfl | rfl, ?_⟩) (by assumption) ?_
            rotate_left
            · (intro w' hSw; (try dsimp only at hSw); go_simp; try with_reducible rfl)
            try simp only [Act.put]
            refine wpAnyH_take (i := 5) (v := ?_) rfl (by kernel_rfl) (by kernel_rfl) (by kernel_rfl) (fun _ _ _ h => h) (Or.inl ⟨by first | kernel_rfl | rfl, ?_⟩) (by assumption) ?_
            rotate_left
            · (intro w' hSw; (try dsimp only at hSw); go_simp; try with_reducible rfl)
            try simp only [Act.put]
            refine wpAnyH_take (i := 6) (v := undef) rfl (by kernel_rfl) (by kernel_rfl) (by kernel_rfl) (fun _ _ _ h => h) (Or.inr ⟨by kernel_rfl, rfl⟩) (by assumption) ?_
            try simp only [Act.put]
            refine wpAnyH_take (i := 7) (v := undef) rfl (by kernel_rfl) (by kernel_rfl) (by kernel_rfl) (fun _ _ _ h => h) (Or.inr ⟨by kernel_rfl, rfl⟩) (by assumption) ?_
            try simp only [Act.put]
            refine wpAnyH_take (i := 8) (v := undef) rfl (by kernel_rfl) (by kernel_rfl) (by kernel_rfl) (fun _ _ _ h => h) (Or.inr ⟨by kernel_rfl, rfl⟩) (by assumption) ?_
            try simp only [Act.put]
            refine wpAnyH_take (i := 9) (v := undef) rfl (by kernel_rfl) (by kernel_rfl) (by kernel_rfl) (fun _ _ _ h => h) (Or.inr ⟨by kernel_rfl, rfl⟩) (by assumption) ?_
            try simp only [Act.put]
            refine wpAnyH_take (i := 10) (v := undef) rfl (by kernel_rfl) (by kernel_rfl) (by kernel_rfl) (fun _ _ _ h => h) (Or.inr ⟨by kernel_rfl, rfl⟩) (by assumption) ?_
            try simp only [Act.put]
            refine wpAnyH_take (i := 11) (v := ?_) rfl (by kernel_rfl) (by kernel_rfl) (by kernel_rfl) (fun _ _ _ h => h) (Or.inl ⟨by first | kernel_rfl | rfl, ?_⟩) (by assumption) ?_
            rotate_left
            · (intro w' hSw; (try dsimp only at hSw); go_simp; try with_reducible rfl)
            try simp only [Act.put]
            refine wpAnyH_take (i := 12) (v := ?_) rfl (by kernel_rfl) (by kernel_rfl) (by kernel_rfl) (fun _ _ _ h => h) (Or.inl ⟨by first | kernel_rfl | rfl, ?_⟩) (by assumption) ?_
            rotate_left
            · (intro w' hSw; (try dsimp only at hSw); go_simp; try with_reducible rfl)
            try simp only [Act.put]
            refine wpAnyH_take (i := 13) (v := undef) rfl (by kernel_rfl) (by kernel_rfl) (by kernel_rfl) (fun _ _ _ h => h) (Or.inr ⟨by kernel_rfl, rfl⟩) (by assumption) ?_
            try simp only [Act.put]
            refine wpAnyH_take (i := 14) (v := undef) rfl (by kernel_rfl) (by kernel_rfl) (by kernel_rfl) (fun _ _ _ h => h) (Or.inr ⟨by kernel_rfl, rfl⟩) (by assumption) ?_
            try simp only [Act.put]
            refine wpAnyH_take (i := 15) (v := undef) rfl (by kernel_rfl) (by kernel_rfl) (by kernel_rfl) (fun _ _ _ h => h) (Or.inr ⟨by kernel_rfl, rfl⟩) (by assumption) ?_
            try simp only [Act.put]
            refine wpAnyH_take (i := 16) (v := undef) rfl (by kernel_rfl) (by kernel_rfl) (by kernel_rfl) (fun _ _ _ h => h) (Or.inr ⟨by kernel_rfl, rfl⟩) (by assumption) ?_
            try simp only [Act.put]
            refine wpAnyH_take (i := 17) (v := undef) rfl (by kernel_rfl) (by kernel_rfl) (by kernel_rfl) (fun _ _ _ h => h) (Or.inr ⟨by kernel_rfl, rfl⟩) (by assumption) ?_
            try simp only [Act.put]
            refine wpAnyH_take (i := 18) (v := undef) rfl (by kernel_rfl) (by kernel_rfl) (by kernel_rfl) (fun _ _ _ h => h) (Or.inr ⟨by kernel_rfl, rfl⟩) (by assumption) ?_
            try simp only [Act.put]
            refine wpAnyH_take (i := 19) (v := undef) rfl (by kernel_rfl) (by kernel_rfl) (by kernel_rfl) (fun _ _ _ h => h) (Or.inr ⟨by kernel_rfl, rfl⟩) (by assumption) ?_
            try simp only [Act.put]
            refine wpAnyH_take (i := 20) (v := undef) rfl (by kernel_rfl) (by kernel_rfl) (by kernel_rfl) (fun _ _ _ h => h) (Or.inr ⟨by kernel_rfl, rfl⟩) (by assumption) ?_
            try simp only [Act.put]
            refine wpAnyH_take (i := 21) (v := undef) rfl (by kernel_rfl) (by kernel_rfl) (by kernel_rfl) (fun _ _ _ h => h) (Or.inr ⟨by kernel_rfl, rfl⟩) (by assumption) ?_
            try simp only [Act.put]
            refine wpAnyH_take (i := 22) (v := undef) rfl (by kernel_rfl) (by kernel_rfl) (by kernel_rfl) (fun _ _ _ h => h) (Or.inr ⟨by kernel_rfl, rfl⟩) (by assumption) ?_
            try simp only [Act.put]
            refine wpAnyH_take (i := 23) (v := undef) rfl (by kernel_rfl) (by kernel_rfl) (by kernel_rfl) (fun _ _ _ h => h) (Or.inr ⟨by kernel_rfl, rfl⟩) (by assumption) ?_
            try simp only [Act.put]
            refine wpAnyH_take (i := 24) (v := undef) rfl (by kernel_rfl) (by kernel_rfl) (by kernel_rfl) (fun _ _ _ h => h) (Or.inr ⟨by kernel_rfl, rfl⟩) (by assumption) ?_
            try simp only [Act.put]
            refine wpAnyH_take (i := 25) (v := undef) rfl (by kernel_rfl) (by kernel_rfl) (by kernel_rfl) (fun _ _ _ h => h) (Or.inr ⟨by kernel_rfl, rfl⟩) (by assumption) ?_
            try simp only [Act.put]
            refine wpAnyH_take (i := 26) (v := undef) rfl (by kernel_rfl) (by kernel_rfl) (by kernel_rfl) (fun _ _ _ h => h) (Or.inr ⟨by kernel_rfl, rfl⟩) (by assumption) ?_
            try simp only [Act.put]
            refine wpAnyH_take (i := 27) (v := ?_) rfl (by kernel_rfl) (by kernel_rfl) (by kernel_rfl) (fun _ _ _ h => h) (Or.inl ⟨by first | kernel_rfl | rfl, ?_⟩) (by assumption) ?_
            rotate_left
            · (intro w' hSw; (try dsimp only at hSw); go_simp; try with_reducible rfl)
            try simp only [Act.put]
            refine wpAnyH_done (by kernel_rfl) ?_ _
            go_simp
            clear hHeld
            go_wp2
            go_ret
            exact ⟨ret_boolB HF.out, HW.out.drew⟩
          · have d1 : decide (y < 13) = false := decide_eq_false h1
            have d2 : decide (y ≥ 120) = true := decide_eq_true h2
            have d3 : decide (120 ≤ y) = true := decide_eq_true h2
            go_wp2_with fail
            refine wp_region_held_drew (S := fun w' => w'.cell? ⟨b, off, none⟩ = some (.int .i64 y)) (by kernel_rfl) g0 (fun hHeld => ?_)
            refine wpAnyH_take (i := 0) (v := ?_) rfl (by kernel_rfl) (by kernel_rfl) (by kernel_rfl) (fun _ _ _ h => h) (Or.inl ⟨by first | kernel_rfl | rfl, ?_⟩) (by assumption) ?_
            rotate_left
            · (intro w' hSw; (try dsimp only at hSw); go_simp; try with_reducible rfl)
            try simp only [Act.put]
            refine wpAnyH_take (i := 1) (v := ?_) rfl (by kernel_rfl) (by kernel_rfl) (by kernel_rfl) (fun _ _ _ h => h) (Or.inl ⟨by first | kernel_rfl | rfl, ?_⟩) (by assumption) ?_
            rotate_left
            · (intro w' hSw; (try dsimp only at hSw); go_simp; try with_reducible rfl)
            try simp only [Act.put]
            refine wpAnyH_take (i := 2) (v := ?_) rfl (by kernel_rfl) (by kernel_rfl) (by kernel_rfl) (fun _ _ _ h => h) (Or.inl ⟨by first | kernel_rfl | rfl, ?_⟩) (by assumption) ?_
            rotate_left
            · (intro w' hSw; (try dsimp only at hSw); go_simp; try with_reducible rfl)
            try simp only [Act.put]
            refine wpAnyH_take (i := 3) (v := ?_) rfl (by kernel_rfl) (by kernel_rfl) (by kernel_rfl) (fun _ _ _ h => h) (Or.inl ⟨by first | kernel_rfl | rfl, ?_⟩) (by assumption) ?_
            rotate_left
            · (intro w' hSw; (try dsimp only at hSw); go_simp; try with_reducible rfl)
            try simp only [Act.put]
            refine wpAnyH_take (i := 4) (v := ?_) rfl (by kernel_rfl) (by kernel_rfl) (by kernel_rfl) (fun _ _ _ h => h) (Or.inl ⟨by first | kernel_rfl | rfl, ?_⟩) (by assumption) ?_
            rotate_left
            · (intro w' hSw; (try dsimp only at hSw); go_simp; try with_reducible rfl)
            try simp only [Act.put]
            refine wpAnyH_take (i := 5) (v := ?_) rfl (by kernel_rfl) (by kernel_rfl) (by kernel_rfl) (fun _ _ _ h => h) (Or.inl ⟨by first | kernel_rfl | rfl, ?_⟩) (by assumption) ?_
            rotate_left
            · (intro w' hSw; (try dsimp only at hSw); go_simp; try with_reducible rfl)
            try simp only [Act.put]
            refine wpAnyH_take (i := 6) (v := ?_) rfl (by kernel_rfl) (by kernel_rfl) (by kernel_rfl) (fun _ _ _ h => h) (Or.inl ⟨by first | kernel_rfl | rfl, ?_⟩) (by assumption) ?_
            rotate_left
            · (intro w' hSw; (try dsimp only at hSw); go_simp; try with_reducible rfl)
            try simp only [Act.put]
            refine wpAnyH_take (i := 7) (v := ?_) rfl (by kernel_rfl) (by kernel_rfl) (by kernel_rfl) (fun _ _ _ h => h) (Or.inl ⟨by first | kernel_rfl | rfl, ?_⟩) (by assumption) ?_
            rotate_left
            · (intro w' hSw; (try dsimp only at hSw); go_simp; try with_reducible rfl)
            try simp only [Act.put]
            refine wpAnyH_take (i := 8) (v := ?_) rfl (by kernel_rfl) (by kernel_rfl) (by kernel_rfl) (fun _ _ _ h => h) (Or.inl ⟨by first | kernel_rfl | rfl, ?_⟩) (by assumption) ?_
            rotate_left
            · (intro w' hSw; (try dsimp only at hSw); go_simp; try with_reducible rfl)
            try simp only [Act.put]
            refine wpAnyH_take (i := 9) (v := ?_) rfl (by kernel_rfl) (by kernel_rfl) (by kernel_rfl) (fun _ _ _ h => h) (Or.inl ⟨by first | kernel_rfl | rfl, ?_⟩) (by assumption) ?_
            rotate_left
            · (intro w' hSw; (try dsimp only at hSw); go_simp; try with_reducible rfl)
            try simp only [Act.put]
            refine wpAnyH_take (i := 10) (v := ?_) rfl (by kernel_rfl) (by kernel_rfl) (by kernel_rfl) (fun _ _ _ h => h) (Or.inl ⟨by first | kernel_rfl | rfl, ?_⟩) (by assumption) ?_
            rotate_left
            · (intro w' hSw; (try dsimp only at hSw); go_simp; try with_reducible rfl)
            try simp only [Act.put]
            refine wpAnyH_take (i := 11) (v := ?_) rfl (by kernel_rfl) (by kernel_rfl) (by kernel_rfl) (fun _ _ _ h => h) (Or.inl ⟨by first | kernel_rfl | rfl, ?_⟩) (by assumption) ?_
            rotate_left
            · (intro w' hSw; (try dsimp only at hSw); go_simp; try with_reducible rfl)
            try simp only [Act.put]
            refine wpAnyH_take (i := 12) (v := ?_) rfl (by kernel_rfl) (by kernel_rfl) (by kernel_rfl) (fun _ _ _ h => h) (Or.inl ⟨by first | kernel_rfl | rfl, ?_⟩) (by assumption) ?_
            rotate_left
            · (intro w' hSw; (try dsimp only at hSw); go_simp; try with_reducible rfl)
            try simp only [Act.put]
            refine wpAnyH_take (i := 13) (v := undef) rfl (by kernel_rfl) (by kernel_rfl) (by kernel_rfl) (fun _ _ _ h => h) (Or.inr ⟨by kernel_rfl, rfl⟩) (by assumption) ?_
            try simp only [Act.put]
            refine wpAnyH_take (i := 14) (v := undef) rfl (by kernel_rfl) (by kernel_rfl) (by kernel_rfl) (fun _ _ _ h => h) (Or.inr ⟨by kernel_rfl, rfl⟩) (by assumption) ?_
            try simp only [Act.put]
            refine wpAnyH_take (i := 15) (v := undef) rfl (by kernel_rfl) (by kernel_rfl) (by kernel_rfl) (fun _ _ _ h => h) (Or.inr ⟨by kernel_rfl, rfl⟩) (by assumption) ?_
            try simp only [Act.put]
            refine wpAnyH_take (i := 16) (v := undef) rfl (by kernel_rfl) (by kernel_rfl) (by kernel_rfl) (fun _ _ _ h => h) (Or.inr ⟨by kernel_rfl, rfl⟩) (by assumption) ?_
            try simp only [Act.put]
            refine wpAnyH_take (i := 17) (v := undef) rfl (by kernel_rfl) (by kernel_rfl) (by kernel_rfl) (fun _ _ _ h => h) (Or.inr ⟨by kernel_rfl, rfl⟩) (by assumption) ?_
            try simp only [Act.put]
            refine wpAnyH_take (i := 18) (v := undef) rfl (by kernel_rfl) (by kernel_rfl) (by kernel_rfl) (fun _ _ _ h => h) (Or.inr ⟨by kernel_rfl, rfl⟩) (by assumption) ?_
            try simp only [Act.put]
            refine wpAnyH_take (i := 19) (v := undef) rfl (by kernel_rfl) (by kernel_rfl) (by kernel_rfl) (fun _ _ _ h => h) (Or.inr ⟨by kernel_rfl, rfl⟩) (by assumption) ?_
            try simp only [Act.put]
            refine wpAnyH_take (i := 20) (v := undef) rfl (by kernel_rfl) (by kernel_rfl) (by kernel_rfl) (fun _ _ _ h => h) (Or.inr ⟨by kernel_rfl, rfl⟩) (by assumption) ?_
            try simp only [Act.put]
            refine wpAnyH_take (i := 21) (v := undef) rfl (by kernel_rfl) (by kernel_rfl) (by kernel_rfl) (fun _ _ _ h => h) (Or.inr ⟨by kernel_rfl, rfl⟩) (by assumption) ?_
            try simp only [Act.put]
            refine wpAnyH_take (i := 22) (v := undef) rfl (by kernel_rfl) (by kernel_rfl) (by kernel_rfl) (fun _ _ _ h => h) (Or.inr ⟨by kernel_rfl, rfl⟩) (by assumption) ?_
            try simp only [Act.put]
            refine wpAnyH_take (i := 23) (v := undef) rfl (by kernel_rfl) (by kernel_rfl) (by kernel_rfl) (fun _ _ _ h => h) (Or.inr ⟨by kernel_rfl, rfl⟩) (by assumption) ?_
            try simp only [Act.put]
            refine wpAnyH_take (i := 24) (v := undef) rfl (by kernel_rfl) (by kernel_rfl) (by kernel_rfl) (fun _ _ _ h => h) (Or.inr ⟨by kernel_rfl, rfl⟩) (by assumption) ?_
            try simp only [Act.put]
            refine wpAnyH_take (i := 25) (v := undef) rfl (by kernel_rfl) (by kernel_rfl) (by kernel_rfl) (fun _ _ _ h => h) (Or.inr ⟨by kernel_rfl, rfl⟩) (by assumption) ?_
            try simp only [Act.put]
            refine wpAnyH_take (i := 26) (v := undef) rfl (by kernel_rfl) (by kernel_rfl) (by kernel_rfl) (fun _ _ _ h => h) (Or.inr ⟨by kernel_rfl, rfl⟩) (by assumption) ?_
            try simp only [Act.put]
            refine wpAnyH_take (i := 27) (v := ?_) rfl (by kernel_rfl) (by kernel_rfl) (by kernel_rfl) (fun _ _ _ h => h) (Or.inl ⟨by first | kernel_rfl | rfl, ?_⟩) (by assumption) ?_
            rotate_left
            · (intro w' hSw; (try dsimp only at hSw); go_simp; try with_reducible rfl)
            try simp only [Act.put]
            refine wpAnyH_done (by kernel_rfl) ?_ _
            go_simp
            clear hHeld
            go_wp2
            go_ret
            exact ⟨ret_boolB HF.out, HW.out.drew⟩
        case pos =>
          have HG1 := Lib.hid (HGS.out hr (fun h => absurd h (Nat.lt_irrefl _)))
          obtain ⟨r1, r2⟩ := hr
          have r3 : ¬ y < 13 := by omega
          have r4 : ¬ y ≥ 120 := by omega
          have d1 : decide (y < 13) = false := decide_eq_false r3
          have d2 : decide (y ≥ 120) = false := decide_eq_false r4
          have d3 : decide (120 ≤ y) = false := decide_eq_false r4
          clear HBS HGS
          go_wp2_with fail
          refine wp_region_held_drew (S := fun w' => w'.cell? ⟨b, off, none⟩ = some (.int .i64 y)) (by kernel_rfl) g0 (fun hHeld => ?_)
          refine wpAnyH_take (i := 0) (v := ?_) rfl (by kernel_rfl) (by kernel_rfl) (by kernel_rfl) (fun _ _ _ h => h) (Or.inl ⟨by first | kernel_rfl | rfl, ?_⟩) (by assumption) ?_
          rotate_left
          · (intro w' hSw; (try dsimp only at hSw); go_simp; try with_reducible rfl)
          try simp only [Act.put]
          refine wpAnyH_take (i := 1) (v := ?_) rfl (by kernel_rfl) (by kernel_rfl) (by kernel_rfl) (fun _ _ _ h => h) (Or.inl ⟨by first | kernel_rfl | rfl, ?_⟩) (by assumption) ?_
          rotate_left
          · (intro w' hSw; (try dsimp only at hSw); go_simp; try with_reducible rfl)
          try simp only [Act.put]
          refine wpAnyH_take (i := 2) (v := ?_) rfl (by kernel_rfl) (by kernel_rfl) (by kernel_rfl) (fun _ _ _ h => h) (Or.inl ⟨by first | kernel_rfl | rfl, ?_⟩) (by assumption) ?_
          rotate_left
          · (intro w' hSw; (try dsimp only at hSw); go_simp; try with_reducible rfl)
          try simp only [Act.put]
          refine wpAnyH_take (i := 3) (v := ?_) rfl (by kernel_rfl) (by kernel_rfl) (by kernel_rfl) (fun _ _ _ h => h) (Or.inl ⟨by first | kernel_rfl | rfl, ?_⟩) (by assumption) ?_
          rotate_left
          · (intro w' hSw; (try dsimp only at hSw); go_simp; try with_reducible rfl)
          try simp only [Act.put]
          refine wpAnyH_take (i := 4) (v := ?_) rfl (by kernel_rfl) (by kernel_rfl) (by kernel_rfl) (fun _ _ _ h => h) (Or.inl ⟨by first | kernel_rfl | rfl, ?_⟩) (by assumption) ?_
          rotate_left
          · (intro w' hSw; (try dsimp only at hSw); go_simp; try with_reducible rfl)
          try simp only [Act.put]
          refine wpAnyH_take (i := 5) (v := ?_) rfl (by kernel_rfl) (by kernel_rfl) (by kernel_rfl) (fun _ _ _ h => h) (Or.inl ⟨by first | kernel_rfl | rfl, ?_⟩) (by assumption) ?_
          rotate_left
          · (intro w' hSw; (try dsimp only at hSw); go_simp; try with_reducible rfl)
          try simp only [Act.put]
          refine wpAnyH_take (i := 6) (v := ?_) rfl (by kernel_rfl) (by kernel_rfl) (by kernel_rfl) (fun _ _ _ h => h) (Or.inl ⟨by first | kernel_rfl | rfl, ?_⟩) (by assumption) ?_
          rotate_left
          · (intro w' hSw; (try dsimp only at hSw); go_simp; try with_reducible rfl)
          try simp only [Act.put]
          refine wpAnyH_take (i := 7) (v := ?_) rfl (by kernel_rfl) (by kernel_rfl) (by kernel_rfl) (fun _ _ _ h => h) (Or.inl ⟨by first | kernel_rfl | rfl, ?_⟩) (by assumption) ?_
          rotate_left
          · (intro w' hSw; (try dsimp only at hSw); go_simp; try with_reducible rfl)
          try simp only [Act.put]
          refine wpAnyH_take (i := 8) (v := ?_) rfl (by kernel_rfl) (by kernel_rfl) (by kernel_rfl) (fun _ _ _ h => h) (Or.inl ⟨by first | kernel_rfl | rfl, ?_⟩) (by assumption) ?_
          rotate_left
          · (intro w' hSw; (try dsimp only at hSw); go_simp; try with_reducible rfl)
          try simp only [Act.put]
          refine wpAnyH_take (i := 9) (v := ?_) rfl (by kernel_rfl) (by kernel_rfl) (by kernel_rfl) (fun _ _ _ h => h) (Or.inl ⟨by first | kernel_rfl | rfl, ?_⟩) (by assumption) ?_
          rotate_left
          · (intro w' hSw; (try dsimp only at hSw); go_simp; try with_reducible rfl)
          try simp only [Act.put]
          refine wpAnyH_take (i := 10) (v := ?_) rfl (by kernel_rfl) (by kernel_rfl) (by kernel_rfl) (fun _ _ _ h => h) (Or.inl ⟨by first | kernel_rfl | rfl, ?_⟩) (by assumption) ?_
          rotate_left
          · (intro w' hSw; (try dsimp only at hSw); go_simp; try with_reducible rfl)
          try simp only [Act.put]
          refine wpAnyH_take (i := 11) (v := ?_) rfl (by kernel_rfl) (by kernel_rfl) (by kernel_rfl) (fun _ _ _ h => h) (Or.inl ⟨by first | kernel_rfl | rfl, ?_⟩) (by assumption) ?_
          rotate_left
          · (intro w' hSw; (try dsimp only at hSw); go_simp; try with_reducible rfl)
          try simp only [Act.put]
          refine wpAnyH_take (i := 12) (v := ?_) rfl (by kernel_rfl) (by kernel_rfl) (by kernel_rfl) (fun _ _ _ h => h) (Or.inl ⟨by first | kernel_rfl | rfl, ?_⟩) (by assumption) ?_
          rotate_left
          · (intro w' hSw; (try dsimp only at hSw); go_simp; try with_reducible rfl)
          try simp only [Act.put]
          refine wpAnyH_take (i := 13) (v := ?_) rfl (by kernel_rfl) (by kernel_rfl) (by kernel_rfl) (fun _ _ _ h => h) (Or.inl ⟨by first | kernel_rfl | rfl, ?_⟩) (by assumption) ?_
          rotate_left
          · (intro w' hSw; (try dsimp only at hSw); go_simp; try with_reducible rfl)
          try simp only [Act.put]
          refine wpAnyH_take (i := 14) (v := ?_) rfl (by kernel_rfl) (by kernel_rfl) (by kernel_rfl) (fun _ _ _ h => h) (Or.inl ⟨by first | kernel_rfl | rfl, ?_⟩) (by assumption) ?_
          rotate_left
          · (intro w' hSw; (try dsimp only at hSw); go_simp; try with_reducible rfl)
          try simp only [Act.put]
          refine wpAnyH_take (i := 15) (v := ?_) rfl (by kernel_rfl) (by kernel_rfl) (by kernel_rfl) (fun _ _ _ h => h) (Or.inl ⟨by first | kernel_rfl | rfl, ?_⟩) (by assumption) ?_
          rotate_left
          · (intro w' hSw; (try dsimp only at hSw); go_simp; try with_reducible rfl)
          try simp only [Act.put]
          refine wpAnyH_take (i := 16) (v := undef) rfl (by kernel_rfl) (by kernel_rfl) (by kernel_rfl) (fun _ _ _ h => h) (Or.inr ⟨by kernel_rfl, rfl⟩) (by assumption) ?_
          try simp only [Act.put]
          refine wpAnyH_take (i := 17) (v := undef) rfl (by kernel_rfl) (by kernel_rfl) (by kernel_rfl) (fun _ _ _ h => h) (Or.inr ⟨by kernel_rfl, rfl⟩) (by assumption) ?_
          try simp only [Act.put]
          refine wpAnyH_take (i := 18) (v := undef) rfl (by kernel_rfl) (by kernel_rfl) (by kernel_rfl) (fun _ _ _ h => h) (Or.inr ⟨by kernel_rfl, rfl⟩) (by assumption) ?_
          try simp only [Act.put]
          refine wpAnyH_take (i := 19) (v := undef) rfl (by kernel_rfl) (by kernel_rfl) (by kernel_rfl) (fun _ _ _ h => h) (Or.inr ⟨by kernel_rfl, rfl⟩) (by assumption) ?_
          try simp only [Act.put]
          refine wpAnyH_take (i := 20) (v := undef) rfl (by kernel_rfl) (by kernel_rfl) (by kernel_rfl) (fun _ _ _ h => h) (Or.inr ⟨by kernel_rfl, rfl⟩) (by assumption) ?_
          try simp only [Act.put]
          refine wpAnyH_take (i := 21) (v := undef) rfl (by kernel_rfl) (by kernel_rfl) (by kernel_rfl) (fun _ _ _ h => h) (Or.inr ⟨by kernel_rfl, rfl⟩) (by assumption) ?_
          try simp only [Act.put]
          refine wpAnyH_take (i := 22) (v := undef) rfl (by kernel_rfl) (by kernel_rfl) (by kernel_rfl) (fun _ _ _ h => h) (Or.inr ⟨by kernel_rfl, rfl⟩) (by assumption) ?_
          try simp only [Act.put]
          refine wpAnyH_take (i := 23) (v := undef) rfl (by kernel_rfl) (by kernel_rfl) (by kernel_rfl) (fun _ _ _ h => h) (Or.inr ⟨by kernel_rfl, rfl⟩) (by assumption) ?_
          try simp only [Act.put]
          refine wpAnyH_take (i := 24) (v := undef) rfl (by kernel_rfl) (by kernel_rfl) (by kernel_rfl) (fun _ _ _ h => h) (Or.inr ⟨by kernel_rfl, rfl⟩) (by assumption) ?_
          try simp only [Act.put]
          refine wpAnyH_take (i := 25) (v := undef) rfl (by kernel_rfl) (by kernel_rfl) (by kernel_rfl) (fun _ _ _ h => h) (Or.inr ⟨by kernel_rfl, rfl⟩) (by assumption) ?_
          try simp only [Act.put]
          refine wpAnyH_take (i := 26) (v := ?_) rfl (by kernel_rfl) (by kernel_rfl) (by kernel_rfl) (fun _ _ _ h => h) (Or.inl ⟨by first | kernel_rfl | rfl, ?_⟩) (by assumption) ?_
          rotate_left
          · (intro w' hSw; (try dsimp only at hSw); go_simp; try with_reducible rfl)
          try simp only [Act.put]
          refine wpAnyH_take (i := 27) (v := ?_) rfl (by kernel_rfl) (by kernel_rfl) (by kernel_rfl) (fun _ _ _ h => h) (Or.inl ⟨by first | kernel_rfl | rfl, ?_⟩) (by assumption) ?_
          rotate_left
          · (intro w' hSw; (try dsimp only at hSw); go_simp; try with_reducible rfl)
          try simp only [Act.put]
          refine wpAnyH_done (by kernel_rfl) ?_ _
          go_simp
          clear hHeld
          go_wp2
          go_roundw
          case rel => exact ⟨0 + 1, by omega, by go_num, Lib.hid HW.out.drew, HG1⟩
          case measure => simp [RowKit.intOf]; omega
      case neg =>
        obtain ⟨j, HJ⟩ : ∃ j, Hid (j = k - 1) := ⟨_, Lib.hid rfl⟩
        have hjl : j < ls.length := by rw [HJ.out]; omega
        have p0 := (HW.out.cell hbl).trans (HC.out j _ (ics_at ls j hjl))
        have hwk : IntKind.wrap .i64 ((k : Int) - 1) = (j : Int) := by rw [IntWalk.i64_in _ (by omega), HJ.out]; omega
        have hjn : (j : Int) < (n : Int) := by have := HL.out; omega
        have hjn2 : j < n := by have := HL.out; omega
        have hkp : (k : Int) > 0 := by omega
        have hkd : decide ((k : Int) > 0) = true := decide_eq_true hkp
        have hkd2 : decide (0 < (k : Int)) = true := decide_eq_true hkp
        have hkd3 : decide (0 < k) = true := decide_eq_true (by omega)
        have HBA := Lib.hid (show ¬ ls[j] < ls[k] → false = ok from fun h => HOK.out ▸ (decide_eq_false (fun c => by
          have h2 := (c k hl0 hl0).2 (by omega)
          have e : ls[j] = ls[k - 1]'(by omega) := by congr 1 <;> exact HJ.out
          rw [e] at h
          exact h h2)).symm)
        have HGT := Lib.hid (show (13 ≤ ls[k] ∧ ls[k] < 120) → ls[j] < ls[k] → GoodP ls (k + 1) from fun h1 h2 => HGS.out h1 (fun _ => by
          have e : ls[j] = ls[k - 1]'(by omega) := by congr 1 <;> exact HJ.out
          rw [← e]
          exact h2))
        clear HGS
        generalize ls[k] = y at g0 HBS HBA HGT
        generalize ls[j] = p at p0 HBA HGT
        by_cases hr : 13 ≤ y ∧ y < 120
        case neg =>
          have HF := Lib.hid (HBS.out hr)
          have hr2 : y < 13 ∨ (¬ y < 13 ∧ y ≥ 120) := by omega
          clear hr HBS HBA HGT
          rcases hr2 with h1 | ⟨h1, h2⟩
          · have d1 : decide (y < 13) = true := decide_eq_true h1
            go_wp2_with fail
            refine wp_region_held_drew (S := fun w' => w'.cell? ⟨b, off + k, none⟩ = some (.int .i64 y) ∧ w'.cell? ⟨b, off + j, none⟩ = some (.int .i64 p)) (by kernel_rfl) ⟨g0, p0⟩ (fun hHeld => ?_)
            refine wpAnyH_take (i := 0) (v := ?_) rfl (by kernel_rfl) (by kernel_rfl) (by kernel_rfl) (fun _ _ _ h => h) (Or.inl ⟨by first | kernel_rfl | rfl, ?_⟩) (by assumption) ?_
            rotate_left
            · (intro w' hSw; (try dsimp only at hSw); go_simp; try with_reducible rfl)
            try simp only [Act.put]
            refine wpAnyH_take (i := 1) (v := ?_) rfl (by kernel_rfl) (by kernel_rfl) (by kernel_rfl) (fun _ _ _ h => h) (Or.inl ⟨by first | kernel_rfl | rfl, ?_⟩) (by assumption) ?_
            rotate_left
            · (intro w' hSw; (try dsimp only at hSw); go_simp; try with_reducible rfl)
            try simp only [Act.put]
            refine wpAnyH_take (i := 2) (v := ?_) rfl (by kernel_rfl) (by kernel_rfl) (by kernel_rfl) (fun _ _ _ h => h) (Or.inl ⟨by first | kernel_rfl | rfl, ?_⟩) (by assumption) ?_
            rotate_left
            · (intro w' hSw; (try dsimp only at hSw); go_simp; try with_reducible rfl)
            try simp only [Act.put]
            refine wpAnyH_take (i := 3) (v := ?_) rfl (by kernel_rfl) (by kernel_rfl) (by kernel_rfl) (fun _ _ _ h => h) (Or.inl ⟨by first | kernel_rfl | rfl, ?_⟩) (by assumption) ?_
            rotate_left
            · (intro w' hSw; (try dsimp only at hSw); go_simp; try with_reducible rfl)
            try simp only [Act.put]
            refine wpAnyH_take (i := 4) (v := ?_) rfl (by kernel_rfl) (by kernel_rfl) (by kernel_rfl) (fun _ _ _ h => h) (Or.inl ⟨by first | kernel_rfl | rfl, ?_⟩) (by assumption) ?_
            rotate_left
            · (intro w' hSw; (try dsimp only at hSw); go_simp; try with_reducible rfl)
            try simp only [Act.put]
            refine wpAnyH_take (i := 5) (v := ?_) rfl (by kernel_rfl) (by kernel_rfl) (by kernel_rfl) (fun _ _ _ h => h) (Or.inl ⟨by first | kernel_rfl | rfl, ?_⟩) (by assumption) ?_
            rotate_left
            · (intro w' hSw; (try dsimp only at hSw); go_simp; try with_reducible rfl)
            try simp only [Act.put]
            refine wpAnyH_take (i := 6) (v := undef) rfl (by kernel_rfl) (by kernel_rfl) (by kernel_rfl) (fun _ _ _ h => h) (Or.inr ⟨by kernel_rfl, rfl⟩) (by assumption) ?_
            try simp only [Act.put]
            refine wpAnyH_take (i := 7) (v := undef) rfl (by kernel_rfl) (by kernel_rfl) (by kernel_rfl) (fun _ _ _ h => h) (Or.inr ⟨by kernel_rfl, rfl⟩) (by assumption) ?_
            try simp only [Act.put]
            refine wpAnyH_take (i := 8) (v := undef) rfl (by kernel_rfl) (by kernel_rfl) (by kernel_rfl) (fun _ _ _ h => h) (Or.inr ⟨by kernel_rfl, rfl⟩) (by assumption) ?_
            try simp only [Act.put]
            refine wpAnyH_take (i := 9) (v := undef) rfl (by kernel_rfl) (by kernel_rfl) (by kernel_rfl) (fun _ _ _ h => h) (Or.inr ⟨by kernel_rfl, rfl⟩) (by assumption) ?_
            try simp only [Act.put]
            refine wpAnyH_take (i := 10) (v := undef) rfl (by kernel_rfl) (by kernel_rfl) (by kernel_rfl) (fun _ _ _ h => h) (Or.inr ⟨by kernel_rfl, rfl⟩) (by assumption) ?_
            try simp only [Act.put]
            refine wpAnyH_take (i := 11) (v := ?_) rfl (by kernel_rfl) (by kernel_rfl) (by kernel_rfl) (fun _ _ _ h => h) (Or.inl ⟨by first | kernel_rfl | rfl, ?_⟩) (by assumption) ?_
            rotate_left
            · (intro w' hSw; (try dsimp only at hSw); go_simp; try with_reducible rfl)
            try simp only [Act.put]
            refine wpAnyH_take (i := 12) (v := ?_) rfl (by kernel_rfl) (by kernel_rfl) (by kernel_rfl) (fun _ _ _ h => h) (Or.inl ⟨by first | kernel_rfl | rfl, ?_⟩) (by assumption) ?_
            rotate_left
            · (intro w' hSw; (try dsimp only at hSw); go_simp; try with_reducible rfl)
            try simp only [Act.put]
            refine wpAnyH_take (i := 13) (v := undef) rfl (by kernel_rfl) (by kernel_rfl) (by kernel_rfl) (fun _ _ _ h => h) (Or.inr ⟨by kernel_rfl, rfl⟩) (by assumption) ?_
            try simp only [Act.put]
            refine wpAnyH_take (i := 14) (v := undef) rfl (by kernel_rfl) (by kernel_rfl) (by kernel_rfl) (fun _ _ _ h => h) (Or.inr ⟨by kernel_rfl, rfl⟩) (by assumption) ?_
            try simp only [Act.put]
            refine wpAnyH_take (i := 15) (v := undef) rfl (by kernel_rfl) (by kernel_rfl) (by kernel_rfl) (fun _ _ _ h => h) (Or.inr ⟨by kernel_rfl, rfl⟩) (by assumption) ?_
            try simp only [Act.put]
            refine wpAnyH_take (i := 16) (v := undef) rfl (by kernel_rfl) (by kernel_rfl) (by kernel_rfl) (fun _ _ _ h => h) (Or.inr ⟨by kernel_rfl, rfl⟩) (by assumption) ?_
            try simp only [Act.put]
            refine wpAnyH_take (i := 17) (v := undef) rfl (by kernel_rfl) (by kernel_rfl) (by kernel_rfl) (fun _ _ _ h => h) (Or.inr ⟨by kernel_rfl, rfl⟩) (by assumption) ?_
            try simp only [Act.put]
            refine wpAnyH_take (i := 18) (v := undef) rfl (by kernel_rfl) (by kernel_rfl) (by kernel_rfl) (fun _ _ _ h => h) (Or.inr ⟨by kernel_rfl, rfl⟩) (by assumption) ?_
            try simp only [Act.put]
            refine wpAnyH_take (i := 19) (v := undef) rfl (by kernel_rfl) (by kernel_rfl) (by kernel_rfl) (fun _ _ _ h => h) (Or.inr ⟨by kernel_rfl, rfl⟩) (by assumption) ?_
            try simp only [Act.put]
            refine wpAnyH_take (i := 20) (v := undef) rfl (by kernel_rfl) (by kernel_rfl) (by kernel_rfl) (fun _ _ _ h => h) (Or.inr ⟨by kernel_rfl, rfl⟩) (by assumption) ?_
            try simp only [Act.put]
            refine wpAnyH_take (i := 21) (v := undef) rfl (by kernel_rfl) (by kernel_rfl) (by kernel_rfl) (fun _ _ _ h => h) (Or.inr ⟨by kernel_rfl, rfl⟩) (by assumption) ?_
            try simp only [Act.put]
            refine wpAnyH_take (i := 22) (v := undef) rfl (by kernel_rfl) (by kernel_rfl) (by kernel_rfl) (fun _ _ _ h => h) (Or.inr ⟨by kernel_rfl, rfl⟩) (by assumption) ?_
            try simp only [Act.put]
            refine wpAnyH_take (i := 23) (v := undef) rfl (by kernel_rfl) (by kernel_rfl) (by kernel_rfl) (fun _ _ _ h => h) (Or.inr ⟨by kernel_rfl, rfl⟩) (by assumption) ?_
            try simp only [Act.put]
            refine wpAnyH_take (i := 24) (v := undef) rfl (by kernel_rfl) (by kernel_rfl) (by kernel_rfl) (fun _ _ _ h => h) (Or.inr ⟨by kernel_rfl, rfl⟩) (by assumption) ?_
            try simp only [Act.put]
            refine wpAnyH_take (i := 25) (v := undef) rfl (by kernel_rfl) (by kernel_rfl) (by kernel_rfl) (fun _ _ _ h => h) (Or.inr ⟨by kernel_rfl, rfl⟩) (by assumption) ?_
            try simp only [Act.put]
            refine wpAnyH_take (i := 26) (v := undef) rfl (by kernel_rfl) (by kernel_rfl) (by kernel_rfl) (fun _ _ _ h => h) (Or.inr ⟨by kernel_rfl, rfl⟩) (by assumption) ?_
            try simp only [Act.put]
            refine wpAnyH_take (i := 27) (v := ?_) rfl (by kernel_rfl) (by kernel_rfl) (by kernel_rfl) (fun _ _ _ h => h) (Or.inl ⟨by first | kernel_rfl | rfl, ?_⟩) (by assumption) ?_
            rotate_left
            · (intro w' hSw; (try dsimp only at hSw); go_simp; try with_reducible rfl)
            try simp only [Act.put]
            refine wpAnyH_done (by kernel_rfl) ?_ _
            go_simp
            clear hHeld
            go_wp2
            go_ret
            exact ⟨ret_boolB HF.out, HW.out.drew⟩
          · have d1 : decide (y < 13) = false := decide_eq_false h1
            have d2 : decide (y ≥ 120) = true := decide_eq_true h2
            have d3 : decide (120 ≤ y) = true := decide_eq_true h2
            go_wp2_with fail
            refine wp_region_held_drew (S := fun w' => w'.cell? ⟨b, off + k, none⟩ = some (.int .i64 y) ∧ w'.cell? ⟨b, off + j, none⟩ = some (.int .i64 p)) (by kernel_rfl) ⟨g0, p0⟩ (fun hHeld => ?_)
            refine wpAnyH_take (i := 0) (v := ?_) rfl (by kernel_rfl) (by kernel_rfl) (by kernel_rfl) (fun _ _ _ h => h) (Or.inl ⟨by first | kernel_rfl | rfl, ?_⟩) (by assumption) ?_
            rotate_left
            · (intro w' hSw; (try dsimp only at hSw); go_simp; try with_reducible rfl)
            try simp only [Act.put]
            refine wpAnyH_take (i := 1) (v := ?_) rfl (by kernel_rfl) (by kernel_rfl) (by kernel_rfl) (fun _ _ _ h => h) (Or.inl ⟨by first | kernel_rfl | rfl, ?_⟩) (by assumption) ?_
            rotate_left
            · (intro w' hSw; (try dsimp only at hSw); go_simp; try with_reducible rfl)
            try simp only [Act.put]
            refine wpAnyH_take (i := 2) (v := ?_) rfl (by kernel_rfl) (by kernel_rfl) (by kernel_rfl) (fun _ _ _ h => h) (Or.inl ⟨by first | kernel_rfl | rfl, ?_⟩) (by assumption) ?_
            rotate_left
            · (intro w' hSw; (try dsimp only at hSw); go_simp; try with_reducible rfl)
            try simp only [Act.put]
            refine wpAnyH_take (i := 3) (v := ?_) rfl (by kernel_rfl) (by kernel_rfl) (by kernel_rfl) (fun _ _ _ h => h) (Or.inl ⟨by first | kernel_rfl | rfl, ?_⟩) (by assumption) ?_
            rotate_left
            · (intro w' hSw; (try dsimp only at hSw); go_simp; try with_reducible rfl)
            try simp only [Act.put]
            refine wpAnyH_take (i := 4) (v := ?_) rfl (by kernel_rfl) (by kernel_rfl) (by kernel_rfl) (fun _ _ _ h => h) (Or.inl ⟨by first | kernel_rfl | rfl, ?_⟩) (by assumption) ?_
            rotate_left
            · (intro w' hSw; (try dsimp only at hSw); go_simp; try with_reducible rfl)
            try simp only [Act.put]
            refine wpAnyH_take (i := 5) (v := ?_) rfl (by kernel_rfl) (by kernel_rfl) (by kernel_rfl) (fun _ _ _ h => h) (Or.inl ⟨by first | kernel_rfl | rfl, ?_⟩) (by assumption) ?_
            rotate_left
            · (intro w' hSw; (try dsimp only at hSw); go_simp; try with_reducible rfl)
            try simp only [Act.put]
            refine wpAnyH_take (i := 6) (v := ?_) rfl (by kernel_rfl) (by kernel_rfl) (by kernel_rfl) (fun _ _ _ h => h) (Or.inl ⟨by first | kernel_rfl | rfl, ?_⟩) (by assumption) ?_
            rotate_left
            · (intro w' hSw; (try dsimp only at hSw); go_simp; try with_reducible rfl)
            try simp only [Act.put]
            refine wpAnyH_take (i := 7) (v := ?_) rfl (by kernel_rfl) (by kernel_rfl) (by kernel_rfl) (fun _ _ _ h => h) (Or.inl ⟨by first | kernel_rfl | rfl, ?_⟩) (by assumption) ?_
            rotate_left
            · (intro w' hSw; (try dsimp only at hSw); go_simp; try with_reducible rfl)
            try simp only [Act.put]
            refine wpAnyH_take (i := 8) (v := ?_) rfl (by kernel_rfl) (by kernel_rfl) (by kernel_rfl) (fun _ _ _ h => h) (Or.inl ⟨by first | kernel_rfl | rfl, ?_⟩) (by assumption) ?_
            rotate_left
            · (intro w' hSw; (try dsimp only at hSw); go_simp; try with_reducible rfl)
            try simp only [Act.put]
            refine wpAnyH_take (i := 9) (v := ?_) rfl (by kernel_rfl) (by kernel_rfl) (by kernel_rfl) (fun _ _ _ h => h) (Or.inl ⟨by first | kernel_rfl | rfl, ?_⟩) (by assumption) ?_
            rotate_left
            · (intro w' hSw; (try dsimp only at hSw); go_simp; try with_reducible rfl)
            try simp only [Act.put]
            refine wpAnyH_take (i := 10) (v := ?_) rfl (by kernel_rfl) (by kernel_rfl) (by kernel_rfl) (fun _ _ _ h => h) (Or.inl ⟨by first | kernel_rfl | rfl, ?_⟩) (by assumption) ?_
            rotate_left
            · (intro w' hSw; (try dsimp only at hSw); go_simp; try with_reducible rfl)
            try simp only [Act.put]
            refine wpAnyH_take (i := 11) (v := ?_) rfl (by kernel_rfl) (by kernel_rfl) (by kernel_rfl) (fun _ _ _ h => h) (Or.inl ⟨by first | kernel_rfl | rfl, ?_⟩) (by assumption) ?_
            rotate_left
            · (intro w' hSw; (try dsimp only at hSw); go_simp; try with_reducible rfl)
            try simp only [Act.put]
            refine wpAnyH_take (i := 12) (v := ?_) rfl (by kernel_rfl) (by kernel_rfl) (by kernel_rfl) (fun _ _ _ h => h) (Or.inl ⟨by first | kernel_rfl | rfl, ?_⟩) (by assumption) ?_
            rotate_left
            · (intro w' hSw; (try dsimp only at hSw); go_simp; try with_reducible rfl)
            try simp only [Act.put]
            refine wpAnyH_take (i := 13) (v := undef) rfl (by kernel_rfl) (by kernel_rfl) (by kernel_rfl) (fun _ _ _ h => h) (Or.inr ⟨by kernel_rfl, rfl⟩) (by assumption) ?_
            try simp only [Act.put]
            refine wpAnyH_take (i := 14) (v := undef) rfl (by kernel_rfl) (by kernel_rfl) (by kernel_rfl) (fun _ _ _ h => h) (Or.inr ⟨by kernel_rfl, rfl⟩) (by assumption) ?_
            try simp only [Act.put]
            refine wpAnyH_take (i := 15) (v := undef) rfl (by kernel_rfl) (by kernel_rfl) (by kernel_rfl) (fun _ _ _ h => h) (Or.inr ⟨by kernel_rfl, rfl⟩) (by assumption) ?_
            try simp only [Act.put]
            refine wpAnyH_take (i := 16) (v := undef) rfl (by kernel_rfl) (by kernel_rfl) (by kernel_rfl) (fun _ _ _ h => h) (Or.inr ⟨by kernel_rfl, rfl⟩) (by assumption) ?_
            try simp only [Act.put]
            refine wpAnyH_take (i := 17) (v := undef) rfl (by kernel_rfl) (by kernel_rfl) (by kernel_rfl) (fun _ _ _ h => h) (Or.inr ⟨by kernel_rfl, rfl⟩) (by assumption) ?_
            try simp only [Act.put]
            refine wpAnyH_take (i := 18) (v := undef) rfl (by kernel_rfl) (by kernel_rfl) (by kernel_rfl) (fun _ _ _ h => h) (Or.inr ⟨by kernel_rfl, rfl⟩) (by assumption) ?_
            try simp only [Act.put]
            refine wpAnyH_take (i := 19) (v := undef) rfl (by kernel_rfl) (by kernel_rfl) (by kernel_rfl) (fun _ _ _ h => h) (Or.inr ⟨by kernel_rfl, rfl⟩) (by assumption) ?_
            try simp only [Act.put]
            refine wpAnyH_take (i := 20) (v := undef) rfl (by kernel_rfl) (by kernel_rfl) (by kernel_rfl) (fun _ _ _ h => h) (Or.inr ⟨by kernel_rfl, rfl⟩) (by assumption) ?_
            try simp only [Act.put]
            refine wpAnyH_take (i := 21) (v := undef) rfl (by kernel_rfl) (by kernel_rfl) (by kernel_rfl) (fun _ _ _ h => h) (Or.inr ⟨by kernel_rfl, rfl⟩) (by assumption) ?_
            try simp only [Act.put]
            refine wpAnyH_take (i := 22) (v := undef) rfl (by kernel_rfl) (by kernel_rfl) (by kernel_rfl) (fun _ _ _ h => h) (Or.inr ⟨by kernel_rfl, rfl⟩) (by assumption) ?_
            try simp only [Act.put]
            refine wpAnyH_take (i := 23) (v := undef) rfl (by kernel_rfl) (by kernel_rfl) (by kernel_rfl) (fun _ _ _ h => h) (Or.inr ⟨by kernel_rfl, rfl⟩) (by assumption) ?_
            try simp only [Act.put]
            refine wpAnyH_take (i := 24) (v := undef) rfl (by kernel_rfl) (by kernel_rfl) (by kernel_rfl) (fun _ _ _ h => h) (Or.inr ⟨by kernel_rfl, rfl⟩) (by assumption) ?_
            try simp only [Act.put]
            refine wpAnyH_take (i := 25) (v := undef) rfl (by kernel_rfl) (by kernel_rfl) (by kernel_rfl) (fun _ _ _ h => h) (Or.inr ⟨by kernel_rfl, rfl⟩) (by assumption) ?_
            try simp only [Act.put]
            refine wpAnyH_take (i := 26) (v := undef) rfl (by kernel_rfl) (by kernel_rfl) (by kernel_rfl) (fun _ _ _ h => h) (Or.inr ⟨by kernel_rfl, rfl⟩) (by assumption) ?_
            try simp only [Act.put]
            refine wpAnyH_take (i := 27) (v := ?_) rfl (by kernel_rfl) (by kernel_rfl) (by kernel_rfl) (fun _ _ _ h => h) (Or.inl ⟨by first | kernel_rfl | rfl, ?_⟩) (by assumption) ?_
            rotate_left
            · (intro w' hSw; (try dsimp only at hSw); go_simp; try with_reducible rfl)
            try simp only [Act.put]
            refine wpAnyH_done (by kernel_rfl) ?_ _
            go_simp
            clear hHeld
            go_wp2
            go_ret
            exact ⟨ret_boolB HF.out, HW.out.drew⟩
        case pos =>
          obtain ⟨r1, r2⟩ := hr
          have r3 : ¬ y < 13 := by omega
          have r4 : ¬ y ≥ 120 := by omega
          have d1 : decide (y < 13) = false := decide_eq_false r3
          have d2 : decide (y ≥ 120) = false := decide_eq_false r4
          have d3 : decide (120 ≤ y) = false := decide_eq_false r4
          by_cases hp : p < y
          case neg =>
            have HF := Lib.hid (HBA.out hp)
            have hp2 : y ≤ p := by omega
            have hpd : decide (y ≤ p) = true := decide_eq_true hp2
            clear HBS HBA HGT hp
            go_wp2_with fail
            refine wp_region_held_drew (S := fun w' => w'.cell? ⟨b, off + k, none⟩ = some (.int .i64 y) ∧ w'.cell? ⟨b, off + j, none⟩ = some (.int .i64 p)) (by kernel_rfl) ⟨g0, p0⟩ (fun hHeld => ?_)
            refine wpAnyH_take (i := 0) (v := ?_) rfl (by kernel_rfl) (by kernel_rfl) (by kernel_rfl) (fun _ _ _ h => h) (Or.inl ⟨by first | kernel_rfl | rfl, ?_⟩) (by assumption) ?_
            rotate_left
            · (intro w' hSw; (try dsimp only at hSw); go_simp; try with_reducible rfl)
            try simp only [Act.put]
            refine wpAnyH_take (i := 1) (v := ?_) rfl (by kernel_rfl) (by kernel_rfl) (by kernel_rfl) (fun _ _ _ h => h) (Or.inl ⟨by first | kernel_rfl | rfl, ?_⟩) (by assumption) ?_
            rotate_left
            · (intro w' hSw; (try dsimp only at hSw); go_simp; try with_reducible rfl)
            try simp only [Act.put]
            refine wpAnyH_take (i := 2) (v := ?_) rfl (by kernel_rfl) (by kernel_rfl) (by kernel_rfl) (fun _ _ _ h => h) (Or.inl ⟨by first | kernel_rfl | rfl, ?_⟩) (by assumption) ?_
            rotate_left
            · (intro w' hSw; (try dsimp only at hSw); go_simp; try with_reducible rfl)
            try simp only [Act.put]
            refine wpAnyH_take (i := 3) (v := ?_) rfl (by kernel_rfl) (by kernel_rfl) (by kernel_rfl) (fun _ _ _ h => h) (Or.inl ⟨by first | kernel_rfl | rfl, ?_⟩) (by assumption) ?_
            rotate_left
            · (intro w' hSw; (try dsimp only at hSw); go_simp; try with_reducible rfl)
            try simp only [Act.put]
            refine wpAnyH_take (i := 4) (v := ?_) rfl (by kernel_rfl) (by kernel_rfl) (by kernel_rfl) (fun _ _ _ h => h) (Or.inl ⟨by first | kernel_rfl | rfl, ?_⟩) (by assumption) ?_
            rotate_left
            · (intro w' hSw; (try dsimp only at hSw); go_simp; try with_reducible rfl)
            try simp only [Act.put]
            refine wpAnyH_take (i := 5) (v := ?_) rfl (by kernel_rfl) (by kernel_rfl) (by kernel_rfl) (fun _ _ _ h => h) (Or.inl ⟨by first | kernel_rfl | rfl, ?_⟩) (by assumption) ?_
            rotate_left
            · (intro w' hSw; (try dsimp only at hSw); go_simp; try with_reducible rfl)
            try simp only [Act.put]
            refine wpAnyH_take (i := 6) (v := ?_) rfl (by kernel_rfl) (by kernel_rfl) (by kernel_rfl) (fun _ _ _ h => h) (Or.inl ⟨by first | kernel_rfl | rfl, ?_⟩) (by assumption) ?_
            rotate_left
            · (intro w' hSw; (try dsimp only at hSw); go_simp; try with_reducible rfl)
            try simp only [Act.put]
            refine wpAnyH_take (i := 7) (v := ?_) rfl (by kernel_rfl) (by kernel_rfl) (by kernel_rfl) (fun _ _ _ h => h) (Or.inl ⟨by first | kernel_rfl | rfl, ?_⟩) (by assumption) ?_
            rotate_left
            · (intro w' hSw; (try dsimp only at hSw); go_simp; try with_reducible rfl)
            try simp only [Act.put]
            refine wpAnyH_take (i := 8) (v := ?_) rfl (by kernel_rfl) (by kernel_rfl) (by kernel_rfl) (fun _ _ _ h => h) (Or.inl ⟨by first | kernel_rfl | rfl, ?_⟩) (by assumption) ?_
            rotate_left
            · (intro w' hSw; (try dsimp only at hSw); go_simp; try with_reducible rfl)
            try simp only [Act.put]
            refine wpAnyH_take (i := 9) (v := ?_) rfl (by kernel_rfl) (by kernel_rfl) (by kernel_rfl) (fun _ _ _ h => h) (Or.inl ⟨by first | kernel_rfl | rfl, ?_⟩) (by assumption) ?_
            rotate_left
            · (intro w' hSw; (try dsimp only at hSw); go_simp; try with_reducible rfl)
            try simp only [Act.put]
            refine wpAnyH_take (i := 10) (v := ?_) rfl (by kernel_rfl) (by kernel_rfl) (by kernel_rfl) (fun _ _ _ h => h) (Or.inl ⟨by first | kernel_rfl | rfl, ?_⟩) (by assumption) ?_
            rotate_left
            · (intro w' hSw; (try dsimp only at hSw); go_simp; try with_reducible rfl)
            try simp only [Act.put]
            refine wpAnyH_take (i := 11) (v := ?_) rfl (by kernel_rfl) (by kernel_rfl) (by kernel_rfl) (fun _ _ _ h => h) (Or.inl ⟨by first | kernel_rfl | rfl, ?_⟩) (by assumption) ?_
            rotate_left
            · (intro w' hSw; (try dsimp only at hSw); go_simp; try with_reducible rfl)
            try simp only [Act.put]
            refine wpAnyH_take (i := 12) (v := ?_) rfl (by kernel_rfl) (by kernel_rfl) (by kernel_rfl) (fun _ _ _ h => h) (Or.inl ⟨by first | kernel_rfl | rfl, ?_⟩) (by assumption) ?_
            rotate_left
            · (intro w' hSw; (try dsimp only at hSw); go_simp; try with_reducible rfl)
            try simp only [Act.put]
            refine wpAnyH_take (i := 13) (v := ?_) rfl (by kernel_rfl) (by kernel_rfl) (by kernel_rfl) (fun _ _ _ h => h) (Or.inl ⟨by first | kernel_rfl | rfl, ?_⟩) (by assumption) ?_
            rotate_left
            · (intro w' hSw; (try dsimp only at hSw); go_simp; try with_reducible rfl)
            try simp only [Act.put]
            refine wpAnyH_take (i := 14) (v := ?_) rfl (by kernel_rfl) (by kernel_rfl) (by kernel_rfl) (fun _ _ _ h => h) (Or.inl ⟨by first | kernel_rfl | rfl, ?_⟩) (by assumption) ?_
            rotate_left
            · (intro w' hSw; (try dsimp only at hSw); go_simp; try with_reducible rfl)
            try simp only [Act.put]
            refine wpAnyH_take (i := 15) (v := ?_) rfl (by kernel_rfl) (by kernel_rfl) (by kernel_rfl) (fun _ _ _ h => h) (Or.inl ⟨by first | kernel_rfl | rfl, ?_⟩) (by assumption) ?_
            rotate_left
            · (intro w' hSw; (try dsimp only at hSw); go_simp; try with_reducible rfl)
            try simp only [Act.put]
            refine wpAnyH_take (i := 16) (v := ?_) rfl (by kernel_rfl) (by kernel_rfl) (by kernel_rfl) (fun _ _ _ h => h) (Or.inl ⟨by first | kernel_rfl | rfl, ?_⟩) (by assumption) ?_
            rotate_left
            · (intro w' hSw; (try dsimp only at hSw); go_simp; try with_reducible rfl)
            try simp only [Act.put]
            refine wpAnyH_take (i := 17) (v := ?_) rfl (by kernel_rfl) (by kernel_rfl) (by kernel_rfl) (fun _ _ _ h => h) (Or.inl ⟨by first | kernel_rfl | rfl, ?_⟩) (by assumption) ?_
            rotate_left
            · (intro w' hSw; (try dsimp only at hSw); go_simp; try with_reducible rfl)
            try simp only [Act.put]
            refine wpAnyH_take (i := 18) (v := ?_) rfl (by kernel_rfl) (by kernel_rfl) (by kernel_rfl) (fun _ _ _ h => h) (Or.inl ⟨by first | kernel_rfl | rfl, ?_⟩) (by assumption) ?_
            rotate_left
            · (intro w' hSw; (try dsimp only at hSw); go_simp; try with_reducible rfl)
            try simp only [Act.put]
            refine wpAnyH_take (i := 19) (v := ?_) rfl (by kernel_rfl) (by kernel_rfl) (by kernel_rfl) (fun _ _ _ h => h) (Or.inl ⟨by first | kernel_rfl | rfl, ?_⟩) (by assumption) ?_
            rotate_left
            · (intro w' hSw; (try dsimp only at hSw); go_simp; try with_reducible rfl)
            try simp only [Act.put]
            refine wpAnyH_take (i := 20) (v := ?_) rfl (by kernel_rfl) (by kernel_rfl) (by kernel_rfl) (fun _ _ _ h => h) (Or.inl ⟨by first | kernel_rfl | rfl, ?_⟩) (by assumption) ?_
            rotate_left
            · (intro w' hSw; (try dsimp only at hSw); go_simp; try with_reducible rfl)
            try simp only [Act.put]
            refine wpAnyH_take (i := 21) (v := ?_) rfl (by kernel_rfl) (by kernel_rfl) (by kernel_rfl) (fun _ _ _ h => h) (Or.inl ⟨by first | kernel_rfl | rfl, ?_⟩) (by assumption) ?_
            rotate_left
            · (intro w' hSw; (try dsimp only at hSw); go_simp; try with_reducible rfl)
            try simp only [Act.put]
            refine wpAnyH_take (i := 22) (v := ?_) rfl (by kernel_rfl) (by kernel_rfl) (by kernel_rfl) (fun _ _ _ h => h) (Or.inl ⟨by first | kernel_rfl | rfl, ?_⟩) (by assumption) ?_
            rotate_left
            · (intro w' hSw; (try dsimp only at hSw); go_simp; try with_reducible rfl)
            try simp only [Act.put]
            refine wpAnyH_take (i := 23) (v := ?_) rfl (by kernel_rfl) (by kernel_rfl) (by kernel_rfl) (fun _ _ _ h => h) (Or.inl ⟨by first | kernel_rfl | rfl, ?_⟩) (by assumption) ?_
            rotate_left
            · (intro w' hSw; (try dsimp only at hSw); go_simp; try with_reducible rfl)
            try simp only [Act.put]
            refine wpAnyH_take (i := 24) (v := ?_) rfl (by kernel_rfl) (by kernel_rfl) (by kernel_rfl) (fun _ _ _ h => h) (Or.inl ⟨by first | kernel_rfl | rfl, ?_⟩) (by assumption) ?_
            rotate_left
            · (intro w' hSw; (try dsimp only at hSw); go_simp; try with_reducible rfl)
            try simp only [Act.put]
            refine wpAnyH_take (i := 25) (v := ?_) rfl (by kernel_rfl) (by kernel_rfl) (by kernel_rfl) (fun _ _ _ h => h) (Or.inl ⟨by first | kernel_rfl | rfl, ?_⟩) (by assumption) ?_
            rotate_left
            · (intro w' hSw; (try dsimp only at hSw); go_simp; try with_reducible rfl)
            try simp only [Act.put]
            refine wpAnyH_take (i := 26) (v := ?_) rfl (by kernel_rfl) (by kernel_rfl) (by kernel_rfl) (fun _ _ _ h => h) (Or.inl ⟨by first | kernel_rfl | rfl, ?_⟩) (by assumption) ?_
            rotate_left
            · (intro w' hSw; (try dsimp only at hSw); go_simp; try with_reducible rfl)
            try simp only [Act.put]
            refine wpAnyH_take (i := 27) (v := ?_) rfl (by kernel_rfl) (by kernel_rfl) (by kernel_rfl) (fun _ _ _ h => h) (Or.inl ⟨by first | kernel_rfl | rfl, ?_⟩) (by assumption) ?_
            rotate_left
            · (intro w' hSw; (try dsimp only at hSw); go_simp; try with_reducible rfl)
            try simp only [Act.put]
            refine wpAnyH_done (by kernel_rfl) ?_ _
            go_simp
            clear hHeld
            go_wp2
            go_ret
            exact ⟨ret_boolB HF.out, HW.out.drew⟩
          case pos =>
            have HG1 := Lib.hid (HGT.out ⟨r1, r2⟩ hp)
            have hp2 : ¬ y ≤ p := by omega
            have hpd : decide (y ≤ p) = false := decide_eq_false hp2
            clear HBS HBA HGT hp
            go_wp2_with fail
            refine wp_region_held_drew (S := fun w' => w'.cell? ⟨b, off + k, none⟩ = some (.int .i64 y) ∧ w'.cell? ⟨b, off + j, none⟩ = some (.int .i64 p)) (by kernel_rfl) ⟨g0, p0⟩ (fun hHeld => ?_)
            refine wpAnyH_take (i := 0) (v := ?_) rfl (by kernel_rfl) (by kernel_rfl) (by kernel_rfl) (fun _ _ _ h => h) (Or.inl ⟨by first | kernel_rfl | rfl, ?_⟩) (by assumption) ?_
            rotate_left
            · (intro w' hSw; (try dsimp only at hSw); go_simp; try with_reducible rfl)
            try simp only [Act.put]
            refine wpAnyH_take (i := 1) (v := ?_) rfl (by kernel_rfl) (by kernel_rfl) (by kernel_rfl) (fun _ _ _ h => h) (Or.inl ⟨by first | kernel_rfl | rfl, ?_⟩) (by assumption) ?_
            rotate_left
            · (intro w' hSw; (try dsimp only at hSw); go_simp; try with_reducible rfl)
            try simp only [Act.put]
            refine wpAnyH_take (i := 2) (v := ?_) rfl (by kernel_rfl) (by kernel_rfl) (by kernel_rfl) (fun _ _ _ h => h) (Or.inl ⟨by first | kernel_rfl | rfl, ?_⟩) (by assumption) ?_
            rotate_left
            · (intro w' hSw; (try dsimp only at hSw); go_simp; try with_reducible rfl)
            try simp only [Act.put]
            refine wpAnyH_take (i := 3) (v := ?_) rfl (by kernel_rfl) (by kernel_rfl) (by kernel_rfl) (fun _ _ _ h => h) (Or.inl ⟨by first | kernel_rfl | rfl, ?_⟩) (by assumption) ?_
            rotate_left
            · (intro w' hSw; (try dsimp only at hSw); go_simp; try with_reducible rfl)
            try simp only [Act.put]
            refine wpAnyH_take (i := 4) (v := ?_) rfl (by kernel_rfl) (by kernel_rfl) (by kernel_rfl) (fun _ _ _ h => h) (Or.inl ⟨by first | kernel_rfl | rfl, ?_⟩) (by assumption) ?_
            rotate_left
            · (intro w' hSw; (try dsimp only at hSw); go_simp; try with_reducible rfl)
            try simp only [Act.put]
            refine wpAnyH_take (i := 5) (v := ?_) rfl (by kernel_rfl) (by kernel_rfl) (by kernel_rfl) (fun _ _ _ h => h) (Or.inl ⟨by first | kernel_rfl | rfl, ?_⟩) (by assumption) ?_
            rotate_left
            · (intro w' hSw; (try dsimp only at hSw); go_simp; try with_reducible rfl)
            try simp only [Act.put]
            refine wpAnyH_take (i := 6) (v := ?_) rfl (by kernel_rfl) (by kernel_rfl) (by kernel_rfl) (fun _ _ _ h => h) (Or.inl ⟨by first | kernel_rfl | rfl, ?_⟩) (by assumption) ?_
            rotate_left
            · (intro w' hSw; (try dsimp only at hSw); go_simp; try with_reducible rfl)
            try simp only [Act.put]
            refine wpAnyH_take (i := 7) (v := ?_) rfl (by kernel_rfl) (by kernel_rfl) (by kernel_rfl) (fun _ _ _ h => h) (Or.inl ⟨by first | kernel_rfl | rfl, ?_⟩) (by assumption) ?_
            rotate_left
            · (intro w' hSw; (try dsimp only at hSw); go_simp; try with_reducible rfl)
            try simp only [Act.put]
            refine wpAnyH_take (i := 8) (v := ?_) rfl (by kernel_rfl) (by kernel_rfl) (by kernel_rfl) (fun _ _ _ h => h) (Or.inl ⟨by first | kernel_rfl | rfl, ?_⟩) (by assumption) ?_
            rotate_left
            · (intro w' hSw; (try dsimp only at hSw); go_simp; try with_reducible rfl)
            try simp only [Act.put]
            refine wpAnyH_take (i := 9) (v := ?_) rfl (by kernel_rfl) (by kernel_rfl) (by kernel_rfl) (fun _ _ _ h => h) (Or.inl ⟨by first | kernel_rfl | rfl, ?_⟩) (by assumption) ?_
            rotate_left
            · (intro w' hSw; (try dsimp only at hSw); go_simp; try with_reducible rfl)
            try simp only [Act.put]
            refine wpAnyH_take (i := 10) (v := ?_) rfl (by kernel_rfl) (by kernel_rfl) (by kernel_rfl) (fun _ _ _ h => h) (Or.inl ⟨by first | kernel_rfl | rfl, ?_⟩) (by assumption) ?_
            rotate_left
            · (intro w' hSw; (try dsimp only at hSw); go_simp; try with_reducible rfl)
            try simp only [Act.put]
            refine wpAnyH_take (i := 11) (v := ?_) rfl (by kernel_rfl) (by kernel_rfl) (by kernel_rfl) (fun _ _ _ h => h) (Or.inl ⟨by first | kernel_rfl | rfl, ?_⟩) (by assumption) ?_
            rotate_left
            · (intro w' hSw; (try dsimp only at hSw); go_simp; try with_reducible rfl)
            try simp only [Act.put]
            refine wpAnyH_take (i := 12) (v := ?_) rfl (by kernel_rfl) (by kernel_rfl) (by kernel_rfl) (fun _ _ _ h => h) (Or.inl ⟨by first | kernel_rfl | rfl, ?_⟩) (by assumption) ?_
            rotate_left
            · (intro w' hSw; (try dsimp only at hSw); go_simp; try with_reducible rfl)
            try simp only [Act.put]
            refine wpAnyH_take (i := 13) (v := ?_) rfl (by kernel_rfl) (by kernel_rfl) (by kernel_rfl) (fun _ _ _ h => h) (Or.inl ⟨by first | kernel_rfl | rfl, ?_⟩) (by assumption) ?_
            rotate_left
            · (intro w' hSw; (try dsimp only at hSw); go_simp; try with_reducible rfl)
            try simp only [Act.put]
            refine wpAnyH_take (i := 14) (v := ?_) rfl (by kernel_rfl) (by kernel_rfl) (by kernel_rfl) (fun _ _ _ h => h) (Or.inl ⟨by first | kernel_rfl | rfl, ?_⟩) (by assumption) ?_
            rotate_left
            · (intro w' hSw; (try dsimp only at hSw); go_simp; try with_reducible rfl)
            try simp only [Act.put]
            refine wpAnyH_take (i := 15) (v := ?_) rfl (by kernel_rfl) (by kernel_rfl) (by kernel_rfl) (fun _ _ _ h => h) (Or.inl ⟨by first | kernel_rfl | rfl, ?_⟩) (by assumption) ?_
            rotate_left
            · (intro w' hSw; (try dsimp only at hSw); go_simp; try with_reducible rfl)
            try simp only [Act.put]
            refine wpAnyH_take (i := 16) (v := ?_) rfl (by kernel_rfl) (by kernel_rfl) (by kernel_rfl) (fun _ _ _ h => h) (Or.inl ⟨by first | kernel_rfl | rfl, ?_⟩) (by assumption) ?_
            rotate_left
            · (intro w' hSw; (try dsimp only at hSw); go_simp; try with_reducible rfl)
            try simp only [Act.put]
            refine wpAnyH_take (i := 17) (v := ?_) rfl (by kernel_rfl) (by kernel_rfl) (by kernel_rfl) (fun _ _ _ h => h) (Or.inl ⟨by first | kernel_rfl | rfl, ?_⟩) (by assumption) ?_
            rotate_left
            · (intro w' hSw; (try dsimp only at hSw); go_simp; try with_reducible rfl)
            try simp only [Act.put]
            refine wpAnyH_take (i := 18) (v := ?_) rfl (by kernel_rfl) (by kernel_rfl) (by kernel_rfl) (fun _ _ _ h => h) (Or.inl ⟨by first | kernel_rfl | rfl, ?_⟩) (by assumption) ?_
            rotate_left
            · (intro w' hSw; (try dsimp only at hSw); go_simp; try with_reducible rfl)
            try simp only [Act.put]
            refine wpAnyH_take (i := 19) (v := ?_) rfl (by kernel_rfl) (by kernel_rfl) (by kernel_rfl) (fun _ _ _ h => h) (Or.inl ⟨by first | kernel_rfl | rfl, ?_⟩) (by assumption) ?_
            rotate_left
            · (intro w' hSw; (try dsimp only at hSw); go_simp; try with_reducible rfl)
            try simp only [Act.put]
            refine wpAnyH_take (i := 20) (v := ?_) rfl (by kernel_rfl) (by kernel_rfl) (by kernel_rfl) (fun _ _ _ h => h) (Or.inl ⟨by first | kernel_rfl | rfl, ?_⟩) (by assumption) ?_
            rotate_left
            · (intro w' hSw; (try dsimp only at hSw); go_simp; try with_reducible rfl)
            try simp only [Act.put]
            refine wpAnyH_take (i := 21) (v := ?_) rfl (by kernel_rfl) (by kernel_rfl) (by kernel_rfl) (fun _ _ _ h => h) (Or.inl ⟨by first | kernel_rfl | rfl, ?_⟩) (by assumption) ?_
            rotate_left
            · (intro w' hSw; (try dsimp only at hSw); go_simp; try with_reducible rfl)
            try simp only [Act.put]
            refine wpAnyH_take (i := 22) (v := ?_) rfl (by kernel_rfl) (by kernel_rfl) (by kernel_rfl) (fun _ _ _ h => h) (Or.inl ⟨by first | kernel_rfl | rfl, ?_⟩) (by assumption) ?_
            rotate_left
            · (intro w' hSw; (try dsimp only at hSw); go_simp; try with_reducible rfl)
            try simp only [Act.put]
            refine wpAnyH_take (i := 23) (v := ?_) rfl (by kernel_rfl) (by kernel_rfl) (by kernel_rfl) (fun _ _ _ h => h) (Or.inl ⟨by first | kernel_rfl | rfl, ?_⟩) (by assumption) ?_
            rotate_left
            · (intro w' hSw; (try dsimp only at hSw); go_simp; try with_reducible rfl)
            try simp only [Act.put]
            refine wpAnyH_take (i := 24) (v := ?_) rfl (by kernel_rfl) (by kernel_rfl) (by kernel_rfl) (fun _ _ _ h => h) (Or.inl ⟨by first | kernel_rfl | rfl, ?_⟩) (by assumption) ?_
            rotate_left
            · (intro w' hSw; (try dsimp only at hSw); go_simp; try with_reducible rfl)
            try simp only [Act.put]
            refine wpAnyH_take (i := 25) (v := ?_) rfl (by kernel_rfl) (by kernel_rfl) (by kernel_rfl) (fun _ _ _ h => h) (Or.inl ⟨by first | kernel_rfl | rfl, ?_⟩) (by assumption) ?_
            rotate_left
            · (intro w' hSw; (try dsimp only at hSw); go_simp; try with_reducible rfl)
            try simp only [Act.put]
            refine wpAnyH_take (i := 26) (v := ?_) rfl (by kernel_rfl) (by kernel_rfl) (by kernel_rfl) (fun _ _ _ h => h) (Or.inl ⟨by first | kernel_rfl | rfl, ?_⟩) (by assumption) ?_
            rotate_left
            · (intro w' hSw; (try dsimp only at hSw); go_simp; try with_reducible rfl)
            try simp only [Act.put]
            refine wpAnyH_take (i := 27) (v := ?_) rfl (by kernel_rfl) (by kernel_rfl) (by kernel_rfl) (fun _ _ _ h => h) (Or.inl ⟨by first | kernel_rfl | rfl, ?_⟩) (by assumption) ?_
            rotate_left
            · (intro w' hSw; (try dsimp only at hSw); go_simp; try with_reducible rfl)
            try simp only [Act.put]
            refine wpAnyH_done (by kernel_rfl) ?_ _
            go_simp
            clear hHeld
            go_wp2
            go_roundw
            case rel => exact ⟨k + 1, by omega, by go_num, Lib.hid HW.out.drew, HG1⟩
            case measure => simp [RowKit.intOf]; omega
    case neg =>
      have HF := Lib.hid (HFIN.out k HG.out (by omega))
      go_wp2
      go_ret
      exact ⟨ret_boolB HF.out, HW.out⟩
theorem specPlaces_is (v : Value) (ls : List Int) (r : Bool) (w : World) (h : Sl w 1 v ls.length (ics ls)) (hv : Low w.heap.size v) (hr : decide (PlacesM ls) = r) :
    Calls Tryz.prog 53 #[v] w fun e w' => e = .returned (.bool r) ∧ Below w.heap.size w w' := hr ▸ specPlaces_any v ls w h hv
end Go.Proofs.YtobjgdnmlibofaaGreat

/-
  A set of the core by itself: spec.l6Set.
-/
set_option maxRecDepth 100000
namespace Go.Proofs.YtobjgdnmlibofaaGreat
open Go.ChangeShapes Go.WideShapes Go.ChangeAt Go.RowKit Go.Proofs.Palim

set_option maxHeartbeats 4000000 in
theorem specSet_any (x : CSetM) (w : World) (hz : x.name.size ≤ 1048576 ∧ x.frm.size ≤ 1048576) :
    Calls Tryz.prog 54 #[.agg (cc x).toArray] w fun e w' => e = .returned (.bool (decide (SetOkC x))) ∧ Below w.heap.size w w' := by
  have hnot : ∀ (x : Bool) (w : World), (Op.unary .not (.bool x)).run Tryz.prog w = .ok (.bool (!x)) w := fun _ _ => rfl
  obtain ⟨ok, HOK⟩ : ∃ ok, Hid (decide (SetOkC x) = ok) := ⟨_, Lib.hid rfl⟩
  rw [HOK.out]
  have hzn : x.name.size ≤ maxLen := by unfold maxLen; have := hz.1; omega
  have hzf : x.frm.size ≤ maxLen := by unfold maxLen; have := hz.2; omega
  have HZN := Lib.hid hzn
  have HZF := Lib.hid hzf
  have X0 := Lib.hid (show Box _ w.heap.size (cc x) from box_new w (cc x).toArray 89)
  have B0 := Lib.hid (Below.new1 (w := w) (.cells (cc x).toArray 89))
  clear hz hzn hzf
  have HBAD := Lib.hid (show ¬ SetOkC x → false = ok from fun h => HOK.out ▸ (decide_eq_false h).symm)
  have H8 := Lib.hid x.h8
  go_enter Tryz.func54, Tryz.ntmps54
  go_upto_region 1 with fail
  obtain ⟨W, HWE⟩ : ∃ W, w.alloc (.cells (cc x).toArray 89) = W := ⟨_, rfl⟩
  rw [HWE] at X0 B0 ⊢
  clear HWE
  obtain ⟨n0, n1, n2, -, -, -, -⟩ := ccBox (x := x) X0.out
  go_wp2_with fail
  refine (BookName_any x.name _ HZN.out).mono ?_
  rintro e W ⟨rfl, rfl⟩
  have hb := Below.refl W.heap.size W
  have Y1 := Lib.hid (X0.out.below hb X0.out.lt)
  have B1 := Lib.hid (B0.out.trans (hb.mono B0.out.size))
  clear hb X0 B0 n0 n1 n2
  by_cases hnm : NameOk x.name
  case neg =>
    rw [decide_eq_false hnm]
    have HF := Lib.hid (HBAD.out (fun c => hnm c.1))
    clear hnm
    go_wp2
    go_ret
    exact ⟨ret_boolB HF.out, B1.out⟩
  case pos =>
  rw [decide_eq_true hnm]
  have HNM := Lib.hid hnm
  clear hnm
  obtain ⟨-, n1, n2, -, -, -, -⟩ := ccBox Y1.out
  by_cases hf0 : x.frm.size = 0
  case pos =>
    have hq := eqEmpty hf0
    have HF0 := Lib.hid hf0
    clear hf0
    obtain ⟨-, n1, -, n4, n5, n6, -⟩ := ccBox Y1.out
    by_cases hkd : 1 ≤ x.kind ∧ x.kind ≤ 2
    case neg =>
      have HF := Lib.hid (HBAD.out (fun c => hkd c.2.2.1))
      have hk2 : x.kind < 1 ∨ (¬ x.kind < 1 ∧ x.kind > 2) := by omega
      clear hkd
      rcases hk2 with h1 | ⟨h1, h2⟩
      all_goals
        go_wp2
        go_ret
        exact ⟨ret_boolB HF.out, B1.out⟩
    case pos =>
    have HKD := Lib.hid hkd
    have hk3 : ¬ x.kind < 1 := by omega
    have hk4 : ¬ x.kind > 2 := by omega
    clear hkd
    go_wp2_with fail
    by_cases hho : PtrOkM x.home
    case neg =>
      have HF := Lib.hid (HBAD.out (fun c => hho c.2.2.2.1))
      have hor := decide_eq_false hho
      clear hho
      refine (specPtrOk_is x.home _ _ hor).mono ?_
      rintro e w3 ⟨rfl, hb⟩
      have B2 := Lib.hid (B1.out.trans (hb.mono B1.out.size))
      clear hb
      go_wp2
      go_ret
      exact ⟨ret_boolB HF.out, B2.out⟩
    case pos =>
    have HHO := Lib.hid hho
    have hor := decide_eq_true hho
    clear hho
    refine (specPtrOk_is x.home _ _ hor).mono ?_
    rintro e w3 ⟨rfl, hb⟩
    have Y2 := Lib.hid (Y1.out.below hb Y1.out.lt)
    have B2 := Lib.hid (B1.out.trans (hb.mono B1.out.size))
    clear hb Y1 B1 n1 n4 n5 n6 hor hk3 hk4
    have HFIN := Lib.hid (show (∀ (j : Nat) (h : j < x.map.length), j < 8 → PtrOkM x.map[j]) → true = ok from fun hg => HOK.out ▸ (decide_eq_true (show SetOkC x from ⟨HNM.out, Or.inl HF0.out, HKD.out, HHO.out, fun p hp => by
      obtain ⟨i, hi, rfl⟩ := List.mem_iff_getElem.1 hp
      exact hg i hi (by have := H8.out; omega)⟩)).symm)
    go_wp2
    go_loopw [3] (fun i wr => ∃ (k : Nat), k ≤ 8 ∧ i = .int .i64 k ∧ Hid (Below w.heap.size w wr) ∧ Hid (Box wr w.heap.size (cc x)) ∧ Hid (∀ (j : Nat) (h : j < x.map.length), j < k → PtrOkM x.map[j])) (fun i _ => 8 - (RowKit.intOf i).toNat)
    case atStart => exact ⟨0, Nat.zero_le _, rfl, B2, Y2, Lib.hid (fun j _ h => absurd h (Nat.not_lt_zero _))⟩
    case round =>
      obtain ⟨k, hk, rfl, HB, HX, HG⟩ := hrel
      by_cases hlt : k < 8
      case pos =>
        have hl0 : k < x.map.length := by rw [H8.out]; exact hlt
        have hk1 : (k : Int) < 8 := by omega
        have HBS := Lib.hid (show ¬ PtrOkM x.map[k] → false = ok from fun h => HBAD.out (fun c => h (c.2.2.2.2 _ (List.getElem_mem hl0))))
        have HGS := Lib.hid (show PtrOkM x.map[k] → ∀ (j : Nat) (h : j < x.map.length), j < k + 1 → PtrOkM x.map[j] from fun hg j hj hjk => by
          by_cases e : j = k
          · subst e; exact hg
          · exact HG.out j hj (by omega))
        have hpr : ∀ i, i < 3 → ∀ u, (pc x.map[k])[i]? = some u → wr.cell? ⟨w.heap.size, 3 + k * 3 + i, none⟩ = some u := fun i hi u hu => by
          have h2 := cc_map x (k * 3 + i) u (by rw [pcs_atD _ k hl0 i hi]; exact hu)
          have := HX.out.cell _ h2
          rwa [show 3 + k * 3 + i = 3 + (k * 3 + i) by omega]
        have g0 := hpr 0 (by omega) _ rfl
        have g1 := hpr 1 (by omega) _ rfl
        have g2 := hpr 2 (by omega) _ rfl
        rw [Nat.add_zero] at g0
        clear hpr
        generalize x.map[k] = y at g0 g1 g2 HBS HGS
        clear HG hl0
        by_cases hg : PtrOkM y
        case neg =>
          have HF := Lib.hid (HBS.out hg)
          have hor := decide_eq_false hg
          clear hg HBS HGS
          go_wp2_with fail
          refine (specPtrOk_is y _ _ hor).mono ?_
          rintro e w4 ⟨rfl, hb⟩
          have HB2 := Lib.hid (HB.out.trans (hb.mono HB.out.size))
          clear hb
          go_wp2
          go_ret
          exact ⟨ret_boolB HF.out, HB2.out⟩
        case pos =>
          have HG1 := Lib.hid (HGS.out hg)
          have hor := decide_eq_true hg
          clear hg HBS HGS
          go_wp2_with fail
          refine (specPtrOk_is y _ _ hor).mono ?_
          rintro e w4 ⟨rfl, hb⟩
          have HB2 := Lib.hid (HB.out.trans (hb.mono HB.out.size))
          have HX2 := Lib.hid (HX.out.below hb HX.out.lt)
          clear hb
          go_wp2
          go_roundw
          case rel => exact ⟨k + 1, by omega, by go_num, HB2, HX2, HG1⟩
          case measure => simp [RowKit.intOf]; omega
      case neg =>
        have HF := Lib.hid (HFIN.out (fun j hj _ => HG.out j hj (by have := H8.out; omega)))
        go_wp2
        go_ret
        exact ⟨ret_boolB HF.out, HB.out⟩
  case neg =>
    have hq := neEmpty hf0
    have HF0 := Lib.hid hf0
    clear hf0
    go_wp2_with fail
    refine (BookName_any x.frm _ HZF.out).mono ?_
    rintro e W ⟨rfl, rfl⟩
    have hb := Below.refl W.heap.size W
    have Y2 := Lib.hid (Y1.out.below hb Y1.out.lt)
    have B2 := Lib.hid (B1.out.trans (hb.mono B1.out.size))
    clear hb Y1 B1 n1 n2
    by_cases hfm : NameOk x.frm
    case neg =>
      rw [decide_eq_false hfm]
      have HF := Lib.hid (HBAD.out (fun c => by rcases c.2.1 with h | h; exact HF0.out h; exact hfm h))
      clear hfm
      go_wp2
      go_ret
      exact ⟨ret_boolB HF.out, B2.out⟩
    case pos =>
    rw [decide_eq_true hfm]
    have HFM := Lib.hid hfm
    clear hfm
    obtain ⟨-, n1, -, n4, n5, n6, -⟩ := ccBox Y2.out
    by_cases hkd : 1 ≤ x.kind ∧ x.kind ≤ 2
    case neg =>
      have HF := Lib.hid (HBAD.out (fun c => hkd c.2.2.1))
      have hk2 : x.kind < 1 ∨ (¬ x.kind < 1 ∧ x.kind > 2) := by omega
      clear hkd
      rcases hk2 with h1 | ⟨h1, h2⟩
      all_goals
        go_wp2
        go_ret
        exact ⟨ret_boolB HF.out, B2.out⟩
    case pos =>
    have HKD := Lib.hid hkd
    have hk3 : ¬ x.kind < 1 := by omega
    have hk4 : ¬ x.kind > 2 := by omega
    clear hkd
    go_wp2_with fail
    by_cases hho : PtrOkM x.home
    case neg =>
      have HF := Lib.hid (HBAD.out (fun c => hho c.2.2.2.1))
      have hor := decide_eq_false hho
      clear hho
      refine (specPtrOk_is x.home _ _ hor).mono ?_
      rintro e w3 ⟨rfl, hb⟩
      have B3 := Lib.hid (B2.out.trans (hb.mono B2.out.size))
      clear hb
      go_wp2
      go_ret
      exact ⟨ret_boolB HF.out, B3.out⟩
    case pos =>
    have HHO := Lib.hid hho
    have hor := decide_eq_true hho
    clear hho
    refine (specPtrOk_is x.home _ _ hor).mono ?_
    rintro e w3 ⟨rfl, hb⟩
    have Y3 := Lib.hid (Y2.out.below hb Y2.out.lt)
    have B3 := Lib.hid (B2.out.trans (hb.mono B2.out.size))
    clear hb Y2 B2 n1 n4 n5 n6 hor hk3 hk4
    have HFIN := Lib.hid (show (∀ (j : Nat) (h : j < x.map.length), j < 8 → PtrOkM x.map[j]) → true = ok from fun hg => HOK.out ▸ (decide_eq_true (show SetOkC x from ⟨HNM.out, Or.inr HFM.out, HKD.out, HHO.out, fun p hp => by
      obtain ⟨i, hi, rfl⟩ := List.mem_iff_getElem.1 hp
      exact hg i hi (by have := H8.out; omega)⟩)).symm)
    go_wp2
    go_loopw [3] (fun i wr => ∃ (k : Nat), k ≤ 8 ∧ i = .int .i64 k ∧ Hid (Below w.heap.size w wr) ∧ Hid (Box wr w.heap.size (cc x)) ∧ Hid (∀ (j : Nat) (h : j < x.map.length), j < k → PtrOkM x.map[j])) (fun i _ => 8 - (RowKit.intOf i).toNat)
    case atStart => exact ⟨0, Nat.zero_le _, rfl, B3, Y3, Lib.hid (fun j _ h => absurd h (Nat.not_lt_zero _))⟩
    case round =>
      obtain ⟨k, hk, rfl, HB, HX, HG⟩ := hrel
      by_cases hlt : k < 8
      case pos =>
        have hl0 : k < x.map.length := by rw [H8.out]; exact hlt
        have hk1 : (k : Int) < 8 := by omega
        have HBS := Lib.hid (show ¬ PtrOkM x.map[k] → false = ok from fun h => HBAD.out (fun c => h (c.2.2.2.2 _ (List.getElem_mem hl0))))
        have HGS := Lib.hid (show PtrOkM x.map[k] → ∀ (j : Nat) (h : j < x.map.length), j < k + 1 → PtrOkM x.map[j] from fun hg j hj hjk => by
          by_cases e : j = k
          · subst e; exact hg
          · exact HG.out j hj (by omega))
        have hpr : ∀ i, i < 3 → ∀ u, (pc x.map[k])[i]? = some u → wr.cell? ⟨w.heap.size, 3 + k * 3 + i, none⟩ = some u := fun i hi u hu => by
          have h2 := cc_map x (k * 3 + i) u (by rw [pcs_atD _ k hl0 i hi]; exact hu)
          have := HX.out.cell _ h2
          rwa [show 3 + k * 3 + i = 3 + (k * 3 + i) by omega]
        have g0 := hpr 0 (by omega) _ rfl
        have g1 := hpr 1 (by omega) _ rfl
        have g2 := hpr 2 (by omega) _ rfl
        rw [Nat.add_zero] at g0
        clear hpr
        generalize x.map[k] = y at g0 g1 g2 HBS HGS
        clear HG hl0
        by_cases hg : PtrOkM y
        case neg =>
          have HF := Lib.hid (HBS.out hg)
          have hor := decide_eq_false hg
          clear hg HBS HGS
          go_wp2_with fail
          refine (specPtrOk_is y _ _ hor).mono ?_
          rintro e w4 ⟨rfl, hb⟩
          have HB2 := Lib.hid (HB.out.trans (hb.mono HB.out.size))
          clear hb
          go_wp2
          go_ret
          exact ⟨ret_boolB HF.out, HB2.out⟩
        case pos =>
          have HG1 := Lib.hid (HGS.out hg)
          have hor := decide_eq_true hg
          clear hg HBS HGS
          go_wp2_with fail
          refine (specPtrOk_is y _ _ hor).mono ?_
          rintro e w4 ⟨rfl, hb⟩
          have HB2 := Lib.hid (HB.out.trans (hb.mono HB.out.size))
          have HX2 := Lib.hid (HX.out.below hb HX.out.lt)
          clear hb
          go_wp2
          go_roundw
          case rel => exact ⟨k + 1, by omega, by go_num, HB2, HX2, HG1⟩
          case measure => simp [RowKit.intOf]; omega
      case neg =>
        have HF := Lib.hid (HFIN.out (fun j hj _ => HG.out j hj (by have := H8.out; omega)))
        go_wp2
        go_ret
        exact ⟨ret_boolB HF.out, HB.out⟩
theorem specSet_is (x : CSetM) (r : Bool) (w : World) (hz : x.name.size ≤ 1048576 ∧ x.frm.size ≤ 1048576) (hr : decide (SetOkC x) = r) :
    Calls Tryz.prog 54 #[.agg (cc x).toArray] w fun e w' => e = .returned (.bool r) ∧ Below w.heap.size w w' := hr ▸ specSet_any x w hz
end Go.Proofs.YtobjgdnmlibofaaGreat

/-
  impl's table of blocks: a map from places to entries, read as the list of its entries by ascending places.
-/
set_option maxRecDepth 100000
namespace Go.Proofs.YtobjgdnmlibofaaGreat
open Go.ChangeShapes Go.WideShapes Go.ChangeAt Go.RowKit Go.Proofs.Palim Go.Maps

def zE : EntM := ⟨0, 0, 0⟩
/-- The map m has just these entries. -/
def MapE (w : World) (m : Nat) (T : List EntM) : Prop :=
  ∃ D, w.ownsMap Tryz.prog 3 entR m T.length D ∧ Maps.size D = T.length ∧ ∀ a : Int, (Lit.int .i64 a).wf = true → Maps.has D (.int .i64 a) = (findE T a).isSome ∧ D.atKey (.int .i64 a) (entD zE) = entD ((findE T a).getD zE)

section
variable {w : World} {m : Nat} {T : List EntM}
theorem keyE : Keyed Tryz.prog 3 := int_keyed Tryz.underlying3
theorem keyOfE {a : Int} (h : (Lit.int .i64 a).wf = true) : keyOf Tryz.prog 3 (.int .i64 a) = some (.int .i64 a) := keyOf_int_mk Tryz.underlying3 h
theorem ownsE_tight {R : Value → Option (DataW Unit × List MemPlace)} {n : Nat} {D : DataW Unit} (h : w.ownsMap Tryz.prog 3 R m n D) : w.ownsMap Tryz.prog 3 R m (Maps.size D) D := by
  obtain ⟨es, clock, hb, F, hs, rfl⟩ := h
  exact ⟨es, clock, hb, F, by simp [Maps.size, length_sorted], rfl⟩
theorem mapE_made (w : World) : MapE (w.alloc (.map #[] 0)) w.heap.size [] :=
  ⟨.map [], World.ownsMap_made w Tryz.prog 3 entR, rfl, fun a _ => ⟨rfl, rfl⟩⟩
theorem MapE.lt (h : MapE w m T) : m < w.heap.size := by obtain ⟨D, ho, _⟩ := h; exact ho.lt
theorem MapE.kept {w' : World} (h : MapE w m T) (hk : w'.heap[m]? = w.heap[m]?) : MapE w' m T := by
  obtain ⟨D, ⟨es, clock, hb, rest⟩, h2⟩ := h
  exact ⟨D, ⟨es, clock, hk.trans hb, rest⟩, h2⟩
theorem MapE.below {w' : World} {B : Nat} (h : MapE w m T) (hb : Below B w w') (hB : m < B) : MapE w' m T := h.kept (hb.block m hB)
theorem zeroEnt (w : World) : (zeroValue 126).run Tryz.prog w = .ok (entV zE) w := by kernel_rfl
def lookEV (o : Option EntM) : Value := .tuple #[entV (o.getD zE), .bool o.isSome]
theorem MapE.look (h : MapE w m T) {a : Int} (hs : (Lit.int .i64 a).wf = true) : (Instr.lookup 164 (.map (some m)) (.int .i64 a) true).run Tryz.prog w = .ok (lookEV (findE T a)) w := by
  obtain ⟨D, ho, _, hl⟩ := h
  obtain ⟨v, ps, hrun, hv⟩ := ho.look_ok keyE Tryz.underlying164 (zeroEnt w) (zd := entD zE) (zp := []) (entR_mk zE) (keyOfE hs)
  obtain ⟨h1, h2⟩ := hl a hs
  rw [hrun, h1]
  rw [h2] at hv
  unfold lookEV
  rw [entR_inv hv]
theorem MapE.look1 (h : MapE w m T) {a : Int} (hs : (Lit.int .i64 a).wf = true) : (Instr.lookup 164 (.map (some m)) (.int .i64 a) false).run Tryz.prog w = .ok (entV ((findE T a).getD zE)) w := by
  obtain ⟨D, ho, _, hl⟩ := h
  obtain ⟨v, ps, hrun, hv⟩ := ho.lookup keyE Tryz.underlying164 (zeroEnt w) (zd := entD zE) (zp := []) (entR_mk zE) (keyOfE hs)
  obtain ⟨h1, h2⟩ := hl a hs
  rw [hrun]
  rw [h2] at hv
  rw [entR_inv hv]
theorem MapE.len (h : MapE w m T) (ty : TypeId) : (Builtin.len_ #[164] ty #[.map (some m)]).run Tryz.prog w = .ok (.int .i64 (T.length : Int)) w := by
  obtain ⟨D, ho, hsz, _⟩ := h
  rw [ho.len Tryz.underlying164 ty, hsz]
theorem MapE.put (h : MapE w m T) (ha : AscE T) {x : EntM} (hs : (Lit.int .i64 x.at_).wf = true) (hlen : T.length < 1000000) :
    ∃ w', (Instr.mapUpdate 164 (.map (some m)) (.int .i64 x.at_) (entV x)).run Tryz.prog w = .ok () w' ∧ MapE w' m (putTb T x) ∧ w.mapTurned w' m := by
  obtain ⟨D, ho, hsz, hl⟩ := h
  obtain ⟨w', hrun, ho', hturn⟩ := ho.store keyE Tryz.underlying164 (by unfold maxLen; omega) (key := .int .i64 x.at_) (val := entV x) (d := entD x) (ps := []) (keyOfE hs) (entR_mk x)
  have hT := ho.tidy keyE
  have hs2 : Maps.size (D.put (.int .i64 x.at_) (entD x)) = (putTb T x).length := by rw [Maps.size_put hT, (hl _ hs).1, length_putM ha]; split <;> simp [hsz]
  refine ⟨w', hrun, ⟨_, hs2 ▸ ownsE_tight ho', hs2, fun b hb => ?_⟩, hturn⟩
  rw [findE_putM ha]
  by_cases e : b = x.at_
  · subst e
    rw [if_pos rfl, Maps.has_put_same hT.isMap (by simp [WideAt.IsKeyLit]), Maps.atKey_put_same hT.isMap (by simp [WideAt.IsKeyLit])]
    exact ⟨rfl, rfl⟩
  · have hne : (Lit.int .i64 b) ≠ .int .i64 x.at_ := fun c => e (by injection c)
    rw [if_neg e, Maps.has_put_other hne, Maps.atKey_put_other hne]
    exact hl b hb
theorem MapE.drop (h : MapE w m T) (ha : AscE T) {a : Int} (hs : (Lit.int .i64 a).wf = true) (ht : (findE T a).isSome = true) (ty : TypeId) :
    ∃ w', (Builtin.delete_ #[164, 3] ty #[.map (some m), .int .i64 a]).run Tryz.prog w = .ok (.tuple #[]) w' ∧ MapE w' m (delM T a) ∧ w.mapTurned w' m := by
  obtain ⟨D, ho, hsz, hl⟩ := h
  obtain ⟨w', hrun, ho', hturn⟩ := ho.drop keyE Tryz.underlying164 (key := .int .i64 a) (keyOfE hs) ty
  have hT := ho.tidy keyE
  have hs2 : Maps.size (D.del (.int .i64 a)) = (delM T a).length := by
    have h1 := Maps.size_del hT (k := .int .i64 a)
    rw [(hl _ hs).1, if_pos ht, hsz] at h1
    have h2 := delM_length ha ht
    omega
  refine ⟨w', hrun, ⟨_, hs2 ▸ ownsE_tight ho', hs2, fun b hb => ?_⟩, hturn⟩
  rw [findE_delM]
  by_cases e : b = a
  · subst e
    rw [if_pos rfl, Maps.has_del_same, Maps.atKey_del_same]
    exact ⟨rfl, rfl⟩
  · have hne : (Lit.int .i64 b) ≠ .int .i64 a := fun c => e (by injection c)
    rw [if_neg e, Maps.has_del_other hne, Maps.atKey_del_other hne]
    exact hl b hb
/-- The map's keys, sorted, are the places. -/
theorem keys_sorted {D : DataW Unit} {n : Nat} (ho : w.ownsMap Tryz.prog 3 entR m n D) (ha : AscE T) (hw : ∀ x ∈ T, (Lit.int .i64 x.at_).wf = true)
    (hl : ∀ a : Int, (Lit.int .i64 a).wf = true → Maps.has D (.int .i64 a) = (findE T a).isSome) {ss : List Int} (hp : ss.Perm (intKeys D)) : ss.mergeSort (fun x y => decide (x ≤ y)) = T.map (·.at_) := by
  have hnd : (T.map (·.at_)).Nodup := by
    unfold List.Nodup
    rw [List.pairwise_map]
    exact ha.imp fun h => by omega
  have hm : (T.map (·.at_)).Perm (intKeys D) := by
    obtain ⟨es, hD, hpw, _⟩ := ho.entries keyE
    obtain ⟨es', hD', hko⟩ := ho.keysOf
    obtain rfl : es = es' := by rw [hD] at hD'; simpa using hD'
    subst hD
    refine perm_intKeys hpw (fun p hp => by obtain ⟨v, hv⟩ := hko p hp; obtain ⟨x, _, hx, _⟩ := Maps.keyOf_i64 Tryz.underlying3 hv; exact ⟨x, hx⟩) hnd (fun x => ?_)
    constructor
    · intro hx
      obtain ⟨e, he, rfl⟩ := List.mem_map.1 hx
      rw [hl _ (hw e he), findE_mem ha he]
      rfl
    · intro hx
      have hwf : (Lit.int .i64 x).wf = true := by
        rw [Maps.has_eq, List.any_eq_true] at hx
        obtain ⟨p, hp', hs⟩ := hx
        refine intKeys_wf ho Tryz.underlying3 x (List.mem_map.2 ⟨p, hp', ?_⟩)
        obtain ⟨v, hv⟩ := hko p hp'
        obtain ⟨y, _, hy, _⟩ := Maps.keyOf_i64 Tryz.underlying3 hv
        rw [hy] at hs ⊢
        simpa [Lit.sameKey, Go.intOf] using hs
      rw [hl x hwf] at hx
      obtain ⟨e, he⟩ := Option.isSome_iff_exists.1 hx
      obtain ⟨h1, h2⟩ := findE_some he
      exact List.mem_map.2 ⟨e, h1, h2⟩
  rw [mergeSort_of_perm_i (hp.trans hm.symm)]
  refine List.mergeSort_of_pairwise ?_
  rw [List.pairwise_map]
  exact ha.imp fun h => by simp [leI]; omega
end
end Go.Proofs.YtobjgdnmlibofaaGreat

/-
  impl's table: opened, one more, one fewer.
-/
set_option maxRecDepth 100000
namespace Go.Proofs.YtobjgdnmlibofaaGreat
open Go.ChangeShapes Go.WideShapes Go.ChangeAt Go.RowKit Go.Proofs.Palim Go.Maps

theorem ent_wf {e : EntM} (h : EntOkM e) : (Lit.int .i64 e.at_).wf = true := wf_i64 (by have := h.2.2.1; omega) (by have := h.2.2.2.1; omega)
theorem ok_of_good {ls : List EntM} (h : GoodE ls ls.length) : ∀ e ∈ ls, EntOkM e := fun e he => by
  obtain ⟨i, hi, rfl⟩ := List.mem_iff_getElem.1 he
  exact (h i hi hi).1
theorem turned_map {S : Nat → Prop} {a w w' : World} {m : Nat} (h : Turned S a w) (ht : w.mapTurned w' m) (hm : S m ∨ a.heap.size ≤ m) : Turned S a w' := turned_grown h ht.grown (fun b e => by cases e; exact hm)
theorem mapE_box {w : World} {m b : Nat} {T : List EntM} {vs : List Value} (h : MapE w m T) (hx : Box w b vs) : b ≠ m := by
  rintro rfl
  obtain ⟨D, ⟨es, clock, hb, _⟩, _⟩ := h
  obtain ⟨c, e, hc, _⟩ := hx
  rw [hb] at hc
  cases hc
theorem MapE.setCell {w : World} {m : Nat} {T : List EntM} (h : MapE w m T) {p : Addr} (hp : m ≠ p.block) (u : Value) : MapE (w.setCell p u) m T := h.kept (Below.heap_setCell w p u m hp)
theorem MapE.alloc {w : World} {m : Nat} {T : List EntM} (h : MapE w m T) (o : Obj) : MapE (w.alloc o) m T := h.kept (Below.heap_alloc w o m h.lt)
theorem below_mapTurnedE {B : Nat} {w0 w w' : World} {m : Nat} (h : Below B w0 w) (ht : w.mapTurned w' m) (hm : B ≤ m) : Below B w0 w' :=
  h.grown ht.grown (Nat.le_trans hm (by obtain ⟨es, c, _, _, hb, _⟩ := ht; exact Nat.le_of_lt (Array.getElem?_eq_some_iff.1 hb).1)) (fun j hj => by cases hj; exact hm)

def OpenedE (w : World) (ls : List EntM) (e : Ending) (w' : World) : Prop := ∃ m, e = .returned (.map (some m)) ∧ MapE w' m ls ∧ w.heap.size ≤ m ∧ Below w.heap.size w w'

/-- What add and drop leave. -/
def AddedE (m : Nat) (T' : Option (List EntM)) (T : List EntM) (w : World) (e : Ending) (w' : World) : Prop :=
  e = .returned (.bool T'.isSome) ∧ MapE w' m (T'.getD T) ∧ Turned (fun b => b = m) w w'

set_option maxHeartbeats 4000000 in
theorem tadd_any (m : Nat) (T : List EntM) (s a : Int) (w : World) (h : MapE w m T) (hA : AscE T) (hok : ∀ e ∈ T, EntOkM e) (hlen : T.length ≤ 48) (hwf : (Lit.int .i64 a).wf = true) :
    Calls Tryz.prog 135 #[.map (some m), .int .i64 s, .int .i64 a] w (AddedE m (addE T s a) T w) := by
  have hnot : ∀ (x : Bool) (w : World), (Op.unary .not (.bool x)).run Tryz.prog w = .ok (.bool (!x)) w := fun _ _ => rfl
  have hlook := h.look hwf
  have HM := Lib.hid h
  have HA := Lib.hid hA
  have hml := h.lt
  obtain ⟨R, HR⟩ : ∃ R, Hid (addE T s a = R) := ⟨_, Lib.hid rfl⟩
  rw [HR.out]
  cases hf : findE T a with
  | some e0 =>
    obtain ⟨m1, m2⟩ := findE_some hf
    rw [hf] at hlook
    have hlook' : (Instr.lookup 164 (.map (some m)) (.int .i64 a) true).run Tryz.prog w = .ok (.tuple #[.agg #[.int .i64 e0.sum, .int .i64 e0.at_, .int .i64 e0.count], .bool true]) w := hlook
    obtain ⟨o1, o2, o3, o4, o5, o6⟩ := hok e0 m1
    have hwr : IntKind.wrap .i64 (e0.count + 1) = e0.count + 1 := IntWalk.i64_in _ (by omega)
    have HF := Lib.hid hf
    clear hlook hf h hok hA
    obtain ⟨s0, a0, c0⟩ := e0
    simp only at hlook' hwr o1 o2 o3 o4 o5 o6 m2
    subst m2
    by_cases hs : s0 = s
    case neg =>
      have hsq : (s0 != s) = true := by simpa using hs
      have hN := Lib.hid (show R = none from by
        rw [← HR.out]
        cases hx : addE T s a0 with
        | none => rfl
        | some T' => have := (addE_some hx).1; rw [HF.out] at this; exact absurd this hs)
      have HB := Lib.hid (Below.new1 (w := w) (.cells #[.int .i64 s0, .int .i64 a0, .int .i64 (c0 + 1)] 126))
      have HM1 := Lib.hid (HM.out.alloc (.cells #[.int .i64 s0, .int .i64 a0, .int .i64 (c0 + 1)] 126))
      go_enter Tryz.func135, Tryz.ntmps135
      go_wp2
      go_ret
      rw [hN.out]
      exact ⟨rfl, HM1.out, turned_of_below HB.out⟩
    case pos =>
    subst hs
    by_cases hok2 : EntOkM ⟨s0, a0, c0 + 1⟩
    case neg =>
      have hor := decide_eq_false hok2
      have hN := Lib.hid (show R = none from by
        rw [← HR.out]
        cases hx : addE T s0 a0 with
        | none => rfl
        | some T' => have := (addE_some hx).2.1; rw [HF.out] at this; exact absurd this hok2)
      have hB := Below.new1 (w := w) (.cells #[.int .i64 s0, .int .i64 a0, .int .i64 (c0 + 1)] 126)
      have HB := Lib.hid hB
      have HM1 := Lib.hid (HM.out.alloc (.cells #[.int .i64 s0, .int .i64 a0, .int .i64 (c0 + 1)] 126))
      clear hok2
      go_enter Tryz.func135, Tryz.ntmps135
      go_wp2_with fail
      refine (implEnt_is ⟨s0, a0, c0 + 1⟩ _ _ hor).mono ?_
      rintro e w2 ⟨rfl, hb2⟩
      have HB2 := Lib.hid (hB.trans (hb2.mono hB.size))
      have HM2 := Lib.hid (HM1.out.below hb2 HM1.out.lt)
      clear hb2 hB
      go_wp2
      go_ret
      rw [hN.out]
      exact ⟨rfl, HM2.out, turned_of_below HB2.out⟩
    case pos =>
    have hor := decide_eq_true hok2
    have hS := Lib.hid (show R = some (putTb T ⟨s0, a0, c0 + 1⟩) from by
      rw [← HR.out, addE_intro (by rw [HF.out]; rfl) (by rw [HF.out]; exact hok2) (fun hh => by rw [HF.out] at hh; cases hh), HF.out]
      rfl)
    have hB := Below.new1 (w := w) (.cells #[.int .i64 s0, .int .i64 a0, .int .i64 (c0 + 1)] 126)
    have HX := box_new w #[.int .i64 s0, .int .i64 a0, .int .i64 (c0 + 1)] 126
    have HM1 := Lib.hid (HM.out.alloc (.cells #[.int .i64 s0, .int .i64 a0, .int .i64 (c0 + 1)] 126))
    clear hok2
    go_enter Tryz.func135, Tryz.ntmps135
    go_wp2_with fail
    refine (implEnt_is ⟨s0, a0, c0 + 1⟩ _ _ hor).mono ?_
    rintro e w2 ⟨rfl, hb2⟩
    have HX2 := HX.below hb2 HX.lt
    obtain ⟨x0, x1, x2⟩ := HX2.three
    have HB2 := Lib.hid (hB.trans (hb2.mono hB.size))
    have HM2 := Lib.hid (HM1.out.below hb2 HM1.out.lt)
    have hrl := HM2.out.len 3
    obtain ⟨w3, hrun, hm3, ht3⟩ := HM2.out.put HA.out (x := ⟨s0, a0, c0 + 1⟩) hwf (by omega)
    have hrun' : (Instr.mapUpdate 164 (.map (some m)) (.int .i64 a0) (.agg #[.int .i64 s0, .int .i64 a0, .int .i64 (c0 + 1)])).run Tryz.prog w2 = .ok () w3 := hrun
    have HM3 := Lib.hid hm3
    have HT3 := Lib.hid (turned_map (S := fun b => b = m) (turned_of_below HB2.out) ht3 (Or.inl rfl))
    clear hb2 hB HX HX2 hrun hm3 ht3
    go_wp2
    go_ret
    rw [hS.out]
    exact ⟨rfl, HM3.out, HT3.out⟩
  | none =>
    rw [hf] at hlook
    have hlook' : (Instr.lookup 164 (.map (some m)) (.int .i64 a) true).run Tryz.prog w = .ok (.tuple #[.agg #[.int .i64 0, .int .i64 0, .int .i64 0], .bool false]) w := hlook
    have HF := Lib.hid hf
    clear hlook hf h hok hA
    by_cases hok2 : EntOkM ⟨s, a, 1⟩
    case neg =>
      have hor := decide_eq_false hok2
      have hN := Lib.hid (show R = none from by
        rw [← HR.out]
        cases hx : addE T s a with
        | none => rfl
        | some T' => have := (addE_some hx).2.1; rw [HF.out] at this; exact absurd this hok2)
      have hB := Below.new1 (w := w) (.cells #[.int .i64 s, .int .i64 a, .int .i64 (1)] 126)
      have HB := Lib.hid hB
      have HM1 := Lib.hid (HM.out.alloc (.cells #[.int .i64 s, .int .i64 a, .int .i64 (1)] 126))
      clear hok2
      go_enter Tryz.func135, Tryz.ntmps135
      go_wp2_with fail
      refine (implEnt_is ⟨s, a, 1⟩ _ _ hor).mono ?_
      rintro e w2 ⟨rfl, hb2⟩
      have HB2 := Lib.hid (hB.trans (hb2.mono hB.size))
      have HM2 := Lib.hid (HM1.out.below hb2 HM1.out.lt)
      clear hb2 hB
      go_wp2
      go_ret
      rw [hN.out]
      exact ⟨rfl, HM2.out, turned_of_below HB2.out⟩
    case pos =>
    have hor := decide_eq_true hok2
    by_cases h48 : T.length = 48
    case pos =>
      have hN := Lib.hid (show R = none from by
        rw [← HR.out]
        cases hx : addE T s a with
        | none => rfl
        | some T' => exact absurd h48 ((addE_some hx).2.2.1 (by rw [HF.out]; rfl)))
      have hB := Below.new1 (w := w) (.cells #[.int .i64 s, .int .i64 a, .int .i64 (1)] 126)
      have HX := box_new w #[.int .i64 s, .int .i64 a, .int .i64 (1)] 126
      have HM1 := Lib.hid (HM.out.alloc (.cells #[.int .i64 s, .int .i64 a, .int .i64 (1)] 126))
      clear hok2
      go_enter Tryz.func135, Tryz.ntmps135
      go_wp2_with fail
      refine (implEnt_is ⟨s, a, 1⟩ _ _ hor).mono ?_
      rintro e w2 ⟨rfl, hb2⟩
      have HX2 := HX.below hb2 HX.lt
      obtain ⟨x0, x1, x2⟩ := HX2.three
      have HB2 := Lib.hid (hB.trans (hb2.mono hB.size))
      have HM2 := Lib.hid (HM1.out.below hb2 HM1.out.lt)
      have hrl := HM2.out.len 3
      obtain ⟨w3, hrun, hm3, ht3⟩ := HM2.out.put HA.out (x := ⟨s, a, 1⟩) hwf (by omega)
      have hrun' : (Instr.mapUpdate 164 (.map (some m)) (.int .i64 a) (.agg #[.int .i64 s, .int .i64 a, .int .i64 (1)])).run Tryz.prog w2 = .ok () w3 := hrun
      have HM3 := Lib.hid hm3
      have HT3 := Lib.hid (turned_map (S := fun b => b = m) (turned_of_below HB2.out) ht3 (Or.inl rfl))
      clear hb2 hB HX HX2 hrun hm3 ht3
      rw [h48] at hrl
      clear hrun'
      go_wp2
      go_ret
      rw [hN.out]
      exact ⟨rfl, HM2.out, turned_of_below HB2.out⟩
    case neg =>
    have hq : ((T.length : Int) == 48) = false := by simp; omega
    have hq2 : ¬ (T.length : Int) = 48 := by omega
    have hS := Lib.hid (show R = some (putTb T ⟨s, a, 1⟩) from by
      rw [← HR.out, addE_intro (by rw [HF.out]; rfl) (by rw [HF.out]; exact hok2) (fun _ => h48), HF.out]
      rfl)
    have hB := Below.new1 (w := w) (.cells #[.int .i64 s, .int .i64 a, .int .i64 (1)] 126)
    have HX := box_new w #[.int .i64 s, .int .i64 a, .int .i64 (1)] 126
    have HM1 := Lib.hid (HM.out.alloc (.cells #[.int .i64 s, .int .i64 a, .int .i64 (1)] 126))
    clear hok2
    go_enter Tryz.func135, Tryz.ntmps135
    go_wp2_with fail
    refine (implEnt_is ⟨s, a, 1⟩ _ _ hor).mono ?_
    rintro e w2 ⟨rfl, hb2⟩
    have HX2 := HX.below hb2 HX.lt
    obtain ⟨x0, x1, x2⟩ := HX2.three
    have HB2 := Lib.hid (hB.trans (hb2.mono hB.size))
    have HM2 := Lib.hid (HM1.out.below hb2 HM1.out.lt)
    have hrl := HM2.out.len 3
    obtain ⟨w3, hrun, hm3, ht3⟩ := HM2.out.put HA.out (x := ⟨s, a, 1⟩) hwf (by omega)
    have hrun' : (Instr.mapUpdate 164 (.map (some m)) (.int .i64 a) (.agg #[.int .i64 s, .int .i64 a, .int .i64 (1)])).run Tryz.prog w2 = .ok () w3 := hrun
    have HM3 := Lib.hid hm3
    have HT3 := Lib.hid (turned_map (S := fun b => b = m) (turned_of_below HB2.out) ht3 (Or.inl rfl))
    clear hb2 hB HX HX2 hrun hm3 ht3
    go_wp2
    go_ret
    rw [hS.out]
    exact ⟨rfl, HM3.out, HT3.out⟩

/-- One fewer. -/
noncomputable def subE (T : List EntM) (a : Int) : Option (List EntM) := (findE T a).map fun e => if e.count = 1 then delM T a else putTb T ⟨e.sum, a, e.count - 1⟩

end Go.Proofs.YtobjgdnmlibofaaGreat

/-
  The library's sorted keys of a map, laid at this seat's own translation.
-/
namespace Go.Proofs
open Go.Shelf Go.RowKit Go.Maps Go.Sort
def Tryz.keysI_ren : Go.Shelf.Ren := ⟨fun | 7 => 145 | 10 => 148 | n => n, fun | 23 => 164 | 26 => 3 | 3 => 126 | 28 => 174 | 0 => 0 | 27 => 173 | 33 => 179 | 4 => 4 | n => n, fun | n => n⟩
theorem Tryz.keysI : Go.Proofs.SlLaysZI.n7 Tryz.prog Tryz.keysI_ren := {
  mixed := by kernel_rfl
  f7 := ⟨Tryz.f145.name, by decide, Tryz.func145.trans (congrArg some (by kernel_rfl))⟩
  f10 := ⟨Tryz.f148.name, by decide, Tryz.func148.trans (congrArg some (by kernel_rfl))⟩
  t0 := Tryz.underlying0
  a0 := Tryz.isAgg0
  z0 := Tryz.sizeOf0
  v0 := Tryz.zeroValue0
  t4 := Tryz.underlying4
  a4 := Tryz.isAgg4
  z4 := Tryz.sizeOf4
  v4 := Tryz.zeroValue4
  t23 := Tryz.underlying164
  a23 := Tryz.isAgg164
  z23 := Tryz.sizeOf164
  v23 := Tryz.zeroValue164
  t26 := Tryz.underlying3
  a26 := Tryz.isAgg3
  z26 := Tryz.sizeOf3
  v26 := Tryz.zeroValue3
  t27 := Tryz.underlying173
  a27 := Tryz.isAgg173
  z27 := Tryz.sizeOf173
  v27 := Tryz.zeroValue173
  t28 := Tryz.underlying174
  a28 := Tryz.isAgg174
  z28 := Tryz.sizeOf174
  v28 := Tryz.zeroValue174
  t33 := Tryz.underlying179
  a33 := Tryz.isAgg179
  z33 := Tryz.sizeOf179
  v33 := Tryz.zeroValue179 }
def Tryz.sortedI_ren : Go.Shelf.Ren := ⟨fun | 6 => 144 | 8 => 146 | 9 => 147 | 11 => 149 | 13 => 151 | 12 => 150 | 23 => 161 | 24 => 162 | 14 => 152 | 15 => 153 | 16 => 154 | 17 => 155 | 18 => 156 | 19 => 157 | 20 => 158 | 21 => 159 | 22 => 160 | 25 => 163 | 26 => 164 | 27 => 165 | 28 => 166 | 29 => 167 | 30 => 168 | 31 => 169 | n => n, fun | 26 => 3 | 28 => 174 | 24 => 30 | 0 => 0 | 3 => 3 | 37 => 183 | 48 => 192 | 50 => 194 | 4 => 4 | 40 => 186 | 39 => 185 | 45 => 142 | 5 => 5 | 9 => 9 | 51 => 195 | 55 => 199 | 57 => 201 | 58 => 202 | 33 => 179 | n => n, fun | n => n⟩
theorem Tryz.sortedI : Go.Proofs.SlLaysZI.n6 Tryz.prog Tryz.sortedI_ren := {
  mixed := by kernel_rfl
  f6 := ⟨Tryz.f144.name, by decide, Tryz.func144.trans (congrArg some (by kernel_rfl))⟩
  f8 := ⟨Tryz.f146.name, by decide, Tryz.func146.trans (congrArg some (by kernel_rfl))⟩
  f11 := ⟨Tryz.f149.name, by decide, Tryz.func149.trans (congrArg some (by kernel_rfl))⟩
  t0 := Tryz.underlying0
  a0 := Tryz.isAgg0
  z0 := Tryz.sizeOf0
  v0 := Tryz.zeroValue0
  t24 := Tryz.underlying30
  a24 := Tryz.isAgg30
  z24 := Tryz.sizeOf30
  v24 := Tryz.zeroValue30
  t26 := Tryz.underlying3
  a26 := Tryz.isAgg3
  z26 := Tryz.sizeOf3
  v26 := Tryz.zeroValue3
  t28 := Tryz.underlying174
  a28 := Tryz.isAgg174
  z28 := Tryz.sizeOf174
  v28 := Tryz.zeroValue174
  i26 := by kernel_rfl }
def Tryz.sortI_ren : Go.Shelf.Ren := ⟨fun | 5 => 147 | 8 => 151 | 7 => 150 | 19 => 161 | 20 => 162 | 10 => 152 | 11 => 153 | 12 => 154 | 13 => 155 | 14 => 156 | 15 => 157 | 16 => 158 | 17 => 159 | 18 => 160 | 30 => 163 | 31 => 164 | 32 => 165 | 33 => 166 | 34 => 167 | 35 => 168 | 40 => 169 | n => n, fun | 23 => 30 | 25 => 3 | 3 => 3 | 32 => 183 | 22 => 30 | 0 => 0 | 44 => 192 | 46 => 194 | 4 => 4 | 36 => 186 | 35 => 185 | 41 => 142 | 5 => 5 | 9 => 9 | 53 => 195 | 57 => 199 | 63 => 201 | 64 => 202 | n => n, fun | n => n⟩
theorem Tryz.sortI : Go.Proofs.SlLaysM.n5 Tryz.prog Tryz.sortI_ren := {
  mixed := by kernel_rfl
  f5 := ⟨Tryz.f147.name, by decide, Tryz.func147.trans (congrArg some (by kernel_rfl))⟩
  f7 := ⟨Tryz.f150.name, by decide, Tryz.func150.trans (congrArg some (by kernel_rfl))⟩
  f8 := Tryz.func151.trans (congrArg some (by kernel_rfl))
  f10 := ⟨Tryz.f152.name, by decide, Tryz.func152.trans (congrArg some (by kernel_rfl))⟩
  f11 := ⟨Tryz.f153.name, by decide, Tryz.func153.trans (congrArg some (by kernel_rfl))⟩
  f12 := ⟨Tryz.f154.name, by decide, Tryz.func154.trans (congrArg some (by kernel_rfl))⟩
  f13 := ⟨Tryz.f155.name, by decide, Tryz.func155.trans (congrArg some (by kernel_rfl))⟩
  f14 := ⟨Tryz.f156.name, by decide, Tryz.func156.trans (congrArg some (by kernel_rfl))⟩
  f15 := ⟨Tryz.f157.name, by decide, Tryz.func157.trans (congrArg some (by kernel_rfl))⟩
  f16 := ⟨Tryz.f158.name, by decide, Tryz.func158.trans (congrArg some (by kernel_rfl))⟩
  f17 := ⟨Tryz.f159.name, by decide, Tryz.func159.trans (congrArg some (by kernel_rfl))⟩
  f18 := ⟨Tryz.f160.name, by decide, Tryz.func160.trans (congrArg some (by kernel_rfl))⟩
  f19 := Tryz.func161.trans (congrArg some (by kernel_rfl))
  f20 := Tryz.func162.trans (congrArg some (by kernel_rfl))
  f30 := ⟨Tryz.f163.name, by decide, Tryz.func163.trans (congrArg some (by kernel_rfl))⟩
  f31 := Tryz.func164.trans (congrArg some (by kernel_rfl))
  f32 := Tryz.func165.trans (congrArg some (by kernel_rfl))
  f33 := ⟨Tryz.f166.name, by decide, Tryz.func166.trans (congrArg some (by kernel_rfl))⟩
  f34 := ⟨Tryz.f167.name, by decide, Tryz.func167.trans (congrArg some (by kernel_rfl))⟩
  f35 := ⟨Tryz.f168.name, by decide, Tryz.func168.trans (congrArg some (by kernel_rfl))⟩
  f40 := ⟨Tryz.f169.name, by decide, Tryz.func169.trans (congrArg some (by kernel_rfl))⟩
  t0 := Tryz.underlying0
  a0 := Tryz.isAgg0
  z0 := Tryz.sizeOf0
  v0 := Tryz.zeroValue0
  t3 := Tryz.underlying3
  a3 := Tryz.isAgg3
  z3 := Tryz.sizeOf3
  v3 := Tryz.zeroValue3
  t4 := Tryz.underlying4
  a4 := Tryz.isAgg4
  z4 := Tryz.sizeOf4
  v4 := Tryz.zeroValue4
  t5 := Tryz.underlying5
  a5 := Tryz.isAgg5
  z5 := Tryz.sizeOf5
  v5 := Tryz.zeroValue5
  t9 := Tryz.underlying9
  a9 := Tryz.isAgg9
  z9 := Tryz.sizeOf9
  v9 := Tryz.zeroValue9
  t22 := Tryz.underlying30
  a22 := Tryz.isAgg30
  z22 := Tryz.sizeOf30
  v22 := Tryz.zeroValue30
  t23 := Tryz.underlying30
  a23 := Tryz.isAgg30
  z23 := Tryz.sizeOf30
  v23 := Tryz.zeroValue30
  t25 := Tryz.underlying3
  a25 := Tryz.isAgg3
  z25 := Tryz.sizeOf3
  v25 := Tryz.zeroValue3
  t32 := Tryz.underlying183
  a32 := Tryz.isAgg183
  z32 := Tryz.sizeOf183
  v32 := Tryz.zeroValue183
  t35 := Tryz.underlying185
  a35 := Tryz.isAgg185
  z35 := Tryz.sizeOf185
  v35 := Tryz.zeroValue185
  t36 := Tryz.underlying186
  a36 := Tryz.isAgg186
  z36 := Tryz.sizeOf186
  v36 := Tryz.zeroValue186
  t41 := Tryz.underlying142
  a41 := Tryz.isAgg142
  z41 := Tryz.sizeOf142
  v41 := Tryz.zeroValue142
  t44 := Tryz.underlying192
  a44 := Tryz.isAgg192
  z44 := Tryz.sizeOf192
  v44 := Tryz.zeroValue192
  t46 := Tryz.underlying194
  a46 := Tryz.isAgg194
  z46 := Tryz.sizeOf194
  v46 := Tryz.zeroValue194
  t53 := Tryz.underlying195
  a53 := Tryz.isAgg195
  z53 := Tryz.sizeOf195
  v53 := Tryz.zeroValue195
  t57 := Tryz.underlying199
  a57 := Tryz.isAgg199
  z57 := Tryz.sizeOf199
  v57 := Tryz.zeroValue199
  t63 := Tryz.underlying201
  a63 := Tryz.isAgg201
  z63 := Tryz.sizeOf201
  v63 := Tryz.zeroValue201
  t64 := Tryz.underlying202
  a64 := Tryz.isAgg202
  z64 := Tryz.sizeOf202
  v64 := Tryz.zeroValue202 }
theorem Tryz.sortsI (m : Nat) : AnyZI.SortsIn Tryz.prog Tryz.sortedI_ren Fence.wide m :=
  ⟨fun blk off cap ss W hH hblk hsz => callsIn_wide.2 (AnyM.slices_Sort_int Tryz.sortI blk off cap ss W hH hblk hsz),
   fun p cap W => callsIn_wide.2 (AnyM.slices_Sort_int_none Tryz.sortI p cap W)⟩

theorem Tryz.keysI_calls (mb : Option Nat) (W : World) : Calls Tryz.prog 145 #[.map mb] W fun e w' => e = .returned (.func (.func 148) #[] #[.pointer (some ⟨W.heap.size, 0, none⟩)]) ∧ w' = W.alloc (.cells #[.map mb] 164) :=
  (callsIn_wide (n := 5)).1 (AnyZI.keys_in Tryz.keysI Fence.wide 5 trivial rfl mb W)

theorem Tryz.sortedI_calls {H : Type} (b nn : Nat) (D0 : DataW H) (R : Value → Option (DataW H × List MemPlace)) (w : World) (hown : w.ownsMap Tryz.prog 3 R b nn D0) (hmax : Maps.size D0 ≤ maxLen) (hbytes : Maps.size D0 * 8 ≤ 140737488355328) :
    Calls Tryz.prog 144 #[.func (.func 148) #[] #[.pointer (some ⟨w.heap.size, 0, none⟩)]] (w.alloc (.cells #[.map (some b)] 164)) fun e w' => ∃ (v : Value) (ss : List Int), e = .returned v ∧ ss.Perm (intKeys D0) ∧
      w'.ownsRow (w.alloc (.cells #[.map (some b)] 164)).heap.size 3 1 v ss.length ((ss.mergeSort (fun x y => decide (x ≤ y))).map encZ) ∧ (v = .slice none 0 0 ↔ ss = []) ∧ Below (w.alloc (.cells #[.map (some b)] 164)).heap.size (w.alloc (.cells #[.map (some b)] 164)) w' := by
  have hbl := hown.lt
  have hseq : SeqGives Fence.wide 2 Tryz.prog 148 #[.pointer (some ⟨w.heap.size, 0, none⟩)] encZ (fun ss => ss.Perm (intKeys D0)) (Maps.size D0) (w.alloc (.cells #[.map (some b)] 164)) :=
    AnyZI.keys_gives (ρ := Tryz.keysI_ren) { Tryz.keysI with } Fence.wide _ trivial rfl (by omega) w.heap.size b nn D0 _ (by simp) (by simp) (by
      obtain ⟨es, clock, hb, Ft, hs, hD⟩ := hown
      exact ⟨es, clock, (Below.heap_alloc _ _ b hbl).trans hb, Ft, hs, hD⟩)
  exact (callsIn_wide (n := 5)).1 (AnyZI.sorted_in Tryz.sortedI Fence.wide 5 trivial trivial trivial trivial rfl (by omega) (Tryz.sortsI _) (enters_of Tryz.func147 (by kernel_rfl) rfl) 148 #[.pointer (some ⟨w.heap.size, 0, none⟩)] trivial (enters_of Tryz.func148 (by kernel_rfl) rfl) _ _ hmax hbytes _ hseq)

end Go.Proofs

/-
  impl's table told as a list; DdtAdd and DdtDrop of impl.
-/
set_option maxRecDepth 100000
namespace Go.Proofs.YtobjgdnmlibofaaGreat
open Go.ChangeShapes Go.WideShapes Go.ChangeAt Go.RowKit Go.Proofs.Palim Go.Maps

theorem ec_one (x : EntM) : ∀ u ∈ ec x, u.oneCell' = true := by
  intro u hu
  simp [ec] at hu
  rcases hu with rfl | rfl | rfl <;> rfl
theorem ecs_one (ls : List EntM) : ∀ u ∈ ecs ls, u.oneCell' = true := by
  intro u hu
  obtain ⟨x, _, hx⟩ := List.mem_flatMap.1 hu
  exact ec_one x u hx
theorem sl_ent (w : World) (x : EntM) (e : Nat) : Sl (w.alloc (.cells #[.int .i64 x.sum, .int .i64 x.at_, .int .i64 x.count] e)) 3 (.slice (some ⟨w.heap.size, 0, none⟩) 1 1) 1 (ec x) := by
  refine ⟨rfl, _, _, rfl, Nat.le_refl _, by unfold maxLen; omega, Or.inr ⟨w.heap.size, 0, rfl, fun j u hu => ?_⟩⟩
  have := (box_new w #[.int .i64 x.sum, .int .i64 x.at_, .int .i64 x.count] e).cell j hu
  rwa [Nat.zero_add]

set_option maxHeartbeats 4000000 in
theorem tlist_any (m : Nat) (T : List EntM) (w : World) (h : MapE w m T) (hA : AscE T) (hok : ∀ e ∈ T, EntOkM e) (hlen : T.length ≤ 48) :
    Calls Tryz.prog 137 #[.map (some m)] w (NewEnts w T) := by
  obtain ⟨i0, hi, hz0, hz1, hz2⟩ := info_parts infoEnt
  obtain ⟨n, HN⟩ : ∃ n, Hid (T.length = n) := ⟨_, Lib.hid rfl⟩
  have HM := Lib.hid h
  have HA := Lib.hid hA
  have HK := Lib.hid hok
  have hml := h.lt
  have hl1 := h.len 3
  rw [HN.out] at hl1 hlen
  clear h hA hok
  go_enter Tryz.func137, Tryz.ntmps137
  go_wp2_with (first | (at_make; refine wpList_make_own _ rfl _ _ 41 rfl w.heap.size 126 i0 (.agg #[.int .i64 0, .int .i64 0, .int .i64 0]) 3 Tryz.underlying41 hi hz0 hz1 _ _ _ n rfl rfl rfl (by rw [hz2]; omega) (by unfold maxLen; omega) (Nat.le_refl _) ?_))
  intro w1 hown hgrow
  have HB1 := Lib.hid (show Below w.heap.size w w1 from (Below.refl _ w).grown hgrow (Nat.le_refl _) (fun _ h => by cases h))
  have HM1 := Lib.hid (HM.out.below HB1.out hml)
  have HO1 := Lib.hid hown
  have hs1 : w.heap.size < w1.heap.size := (hown.lt _ rfl).2
  clear hown hgrow
  go_wp2_with fail
  refine (Tryz.keysI_calls _ _).mono ?_
  rintro e w2 ⟨rfl, rfl⟩
  go_wp2_with fail
  obtain ⟨D, ho, hsz, hl⟩ := HM1.out
  refine (Tryz.sortedI_calls m _ D entR w1 ho (by rw [hsz, HN.out]; unfold maxLen; omega) (by rw [hsz, HN.out]; omega)).mono ?_
  rintro e w3 ⟨vk, ss, rfl, hp, hrow, -, hb⟩
  rw [keys_sorted ho HA.out (fun x hx => ent_wf (HK.out x hx)) (fun a ha => (hl a ha).1) hp] at hrow
  have hsl : ss.length = n := by
    have := congrArg List.length (keys_sorted ho HA.out (fun x hx => ent_wf (HK.out x hx)) (fun a ha => (hl a ha).1) hp)
    rw [List.length_mergeSort, List.length_map, HN.out] at this
    exact this
  rw [hsl] at hrow
  have hsz1 : (w1.alloc (.cells #[.map (some m)] 164)).heap.size = w1.heap.size + 1 := by simp
  rw [hsz1] at hrow
  have hb13 : Below w1.heap.size w1 w3 := (Below.new1 _).trans (hb.mono (by rw [hsz1]; omega))
  have HB3 := Lib.hid (HB1.out.trans (hb13.mono (by omega)))
  have HM3 := Lib.hid (HM1.out.below hb13 (by omega))
  have HO3 := Lib.hid (own_kept HO1.out (w' := w3) (fun b e => hb13.block b (by have := (HO1.out.lt b e).2; omega)))
  have HKS := Lib.hid (sl_of_own hrow)
  have hkb := Lib.hid (show ∀ b, vk.ownBlock = some b → w1.heap.size < b ∧ b < w3.heap.size from fun b e => by have := hrow.lt b e; omega)
  have hs3 : w1.heap.size ≤ w3.heap.size := hb13.size
  obtain ⟨_, Ak, ck, rfl, hnk, hck, _⟩ := sl_of_own hrow
  unfold maxLen at hck
  clear ho hsz hl hp hrow hsl hsz1 hb hb13 HM1 HO1 HB1
  go_wp2
  go_loopw [3, 5, 13] (fun l _ i wr => ∃ (k : Nat) (A : Option Addr) (cap : Nat), k ≤ n ∧ i = .int .i64 k ∧ l = .slice A k cap ∧ Hid (wr.ownsRow w.heap.size 126 3 (.slice A k cap) k (ecs (T.take k))) ∧ Hid (Below w.heap.size w wr) ∧ Hid (MapE wr m T) ∧ Hid (Sl wr 1 (.slice Ak n ck) n ((T.map (·.at_)).map encZ)) ∧ w3.heap.size ≤ wr.heap.size ∧ Hid (∀ b, (Value.slice A k cap).ownBlock = some b → b = w.heap.size ∨ w3.heap.size ≤ b)) (fun _ _ i _ => n - (RowKit.intOf i).toNat)
  case atStart => exact ⟨0, some ⟨w.heap.size, 0, none⟩, n, Nat.zero_le _, rfl, rfl, Lib.hid HO3.out, HB3, HM3, HKS, Nat.le_refl _, Lib.hid (fun b e => Or.inl (by simpa [Value.ownBlock] using e.symm))⟩
  case round =>
    obtain ⟨k, A, cap, hk, rfl, rfl, HO, HW, HMr, HKr, hsr, HBK⟩ := hrel
    by_cases hlt : k < n
    · have hl0 : k < T.length := by rw [HN.out]; exact hlt
      obtain ⟨kb, ko, ck', hvk, -, -, hkc⟩ := HKr.out.form (by omega)
      injection hvk with e1 e2 e3
      subst e1 e3
      clear e2
      have g0 := hkc k (encZ T[k].at_) (by simp [hl0])
      have hk1 : (k : Int) < (n : Int) := by omega
      have hlk := HMr.out.look1 (ent_wf (HK.out _ (List.getElem_mem hl0)))
      rw [findE_mem HA.out (List.getElem_mem hl0)] at hlk
      have HE := Lib.hid (show ecs (T.take (k + 1)) = ecs (T.take k) ++ ec T[k] from by rw [List.take_succ_eq_append_getElem hl0, ecs_snoc])
      generalize T[k] = y at g0 hlk HE
      have hlk' : (Instr.lookup 164 (.map (some m)) (.int .i64 y.at_) false).run Tryz.prog wr = .ok (.agg #[.int .i64 y.sum, .int .i64 y.at_, .int .i64 y.count]) wr := hlk
      have hn1 := Below.new1 (w := wr) (.cells #[.int .i64 y.sum, .int .i64 y.at_, .int .i64 y.count] 126)
      have HO2 := Lib.hid (own_kept HO.out (w' := wr.alloc (.cells #[.int .i64 y.sum, .int .i64 y.at_, .int .i64 y.count] 126)) (fun b e => hn1.block b (HO.out.lt b e).2))
      have HS1 := Lib.hid (sl_ent wr y 126)
      have HW2 := Lib.hid (HW.out.trans (hn1.mono HW.out.size))
      have HM2 := Lib.hid (HMr.out.below hn1 HMr.out.lt)
      have HK2 := Lib.hid (HKr.out.below hn1 (fun b e => by have := (hkb.out b e).2; omega))
      have hsz : (wr.alloc (.cells #[.int .i64 y.sum, .int .i64 y.at_, .int .i64 y.count] 126)).heap.size = wr.heap.size + 1 := by simp
      clear hlk hkc hn1 HO HW HMr HKr hl0
      go_wp2_with (first | (at_builtin; refine wpList_append_freshB _ rfl _ _ 41 rfl w.heap.size 126 i0 _ 3 24 Tryz.underlying41 hi hz0 hz1 hz2 rfl (by omega) (.slice A k cap) k _ rfl HO2.out (.slice (some ⟨wr.heap.size, 0, none⟩) 1 1) 1 (ec y) rfl HS1.out (ec_one y) (by unfold maxLen; omega) (by omega) (by have := HW2.out.size; omega) ?_))
      intro A1 cap1 w5 hown5 hg5 hloc
      rw [← HE.out] at hown5
      have HO5 := Lib.hid hown5
      have HW5 := Lib.hid (HW2.out.grown hg5 (by omega) (fun b e => by rcases HBK.out b e with h | h <;> omega))
      have hmk : ∀ b, b ≠ w.heap.size → b < w3.heap.size → w5.heap[b]? = (wr.alloc (.cells #[.int .i64 y.sum, .int .i64 y.at_, .int .i64 y.count] 126)).heap[b]? := fun b hb1 hb2 => hg5.block b (by omega) (fun e => by rcases HBK.out b e.symm with h | h <;> omega)
      have HM5 := Lib.hid (HM2.out.kept (hmk m (by omega) (by omega)))
      have HK5 := Lib.hid (HK2.out.kept (fun b e => by have := hkb.out b e; exact hmk b (by omega) (by omega)))
      have hsr5 : w3.heap.size ≤ w5.heap.size := by have := hg5.size; omega
      have HBK5 := Lib.hid (show ∀ b, (Value.slice A1 (k + 1) cap1).ownBlock = some b → b = w.heap.size ∨ w3.heap.size ≤ b from fun b e => by
        rcases hloc with h | h
        · rw [h] at e; exact HBK.out b e
        · rw [h] at e; have := Option.some.inj e; omega)
      clear hown5 hg5 hloc hmk HO2 HW2 HM2 HK2 HBK
      go_wp2
      go_roundw
      case rel => exact ⟨k + 1, A1, cap1, by omega, by go_num, rfl, HO5, HW5, HM5, HK5, hsr5, HBK5⟩
      case measure => simp [RowKit.intOf]; omega
    · have hkn : k = n := by omega
      have HT := Lib.hid (show T.take k = T from List.take_of_length_le (by rw [HN.out]; omega))
      go_wp2
      go_ret
      refine ⟨_, rfl, ?_, HW.out⟩
      have h0 := HO.out
      rw [HT.out, hkn] at h0
      rw [HN.out, hkn]
      exact h0

/-- A list of entries of the call's own, and whether it was done. -/
def PairE (w : World) (T : List EntM) (R : Bool) (e : Ending) (w' : World) : Prop :=
  ∃ v, e = .returned (.tuple #[v, .bool R]) ∧ w'.ownsRow w.heap.size 126 3 v T.length (ecs T) ∧ Below w.heap.size w w'
theorem nil_ents (w : World) (base : Nat) : w.ownsRow base 126 3 (.slice none 0 0) ([] : List EntM).length (ecs []) := ⟨rfl, Or.inl ⟨rfl, rfl⟩⟩
theorem asc_addE {T T' : List EntM} (hA : AscE T) (hok : ∀ e ∈ T, EntOkM e) {s a : Int} (h : addE T s a = some T') : AscE T' ∧ ∀ e ∈ T', EntOkM e := by
  obtain ⟨_, h2, _, rfl⟩ := addE_some h
  refine ⟨asc_putM hA _, fun e he => ?_⟩
  rcases mem_putM he with rfl | he
  · exact h2
  · exact hok e he
theorem asc_subE {T T' : List EntM} (hA : AscE T) (hok : ∀ e ∈ T, EntOkM e) (hl : T.length ≤ 48) {a : Int} (h : subE T a = some T') : AscE T' ∧ (∀ e ∈ T', EntOkM e) ∧ T'.length ≤ 48 := by
  unfold subE at h
  cases hf : findE T a with
  | none => rw [hf] at h; cases h
  | some e0 =>
    rw [hf] at h
    obtain rfl := Option.some.inj h
    simp only
    obtain ⟨m1, m2⟩ := findE_some hf
    obtain ⟨o1, o2, o3, o4, o5, o6⟩ := hok e0 m1
    split
    · exact ⟨asc_delM hA _, fun e he => hok e (List.mem_filter.1 he).1, Nat.le_trans (delM_le _ _) hl⟩
    · refine ⟨asc_putM hA _, fun e he => ?_, ?_⟩
      · rcases mem_putM he with rfl | he
        · exact ⟨o1, o2, by show 1 ≤ a; omega, by show a < 120; omega, by show 1 ≤ e0.count - 1; omega, by show e0.count - 1 ≤ 1000; omega⟩
        · exact hok e he
      · rw [length_putM hA]
        simp only
        rw [hf]
        simpa using hl

end Go.Proofs.YtobjgdnmlibofaaGreat

/-
  Go's == and != on pointers, entries and sets of the core.
-/
set_option maxRecDepth 100000
namespace Go.Proofs.YtobjgdnmlibofaaGreat
open Go.ChangeShapes Go.WideShapes Go.ChangeAt Go.RowKit Go.Proofs.Palim

theorem ptr_eq {p q : PtrM} : p = q ↔ p.at_ = q.at_ ∧ p.sum = q.sum ∧ p.birth = q.birth := by cases p; cases q; simp
instance : DecidableEq PtrM := fun p q => decidable_of_iff _ ptr_eq.symm
theorem ent_eq {p q : EntM} : p = q ↔ p.sum = q.sum ∧ p.at_ = q.at_ ∧ p.count = q.count := by cases p; cases q; simp
instance : DecidableEq EntM := fun p q => decidable_of_iff _ ent_eq.symm
theorem cset_eq {x y : CSetM} : x = y ↔ x.name = y.name ∧ x.kind = y.kind ∧ x.frm = y.frm ∧ x.map = y.map ∧ x.home = y.home ∧ x.dirty = y.dirty := by cases x; cases y; simp
noncomputable instance : DecidableEq CSetM := fun _ _ => Classical.propDecidable _

theorem equalPtr (d : Nat) (p q : PtrM) (w : World) : (Op.equalIn (d + 1 + 1) 86 (pv p) (pv q)).run Tryz.prog w = .ok (decide (p = q)) w := by
  obtain ⟨a, s, b⟩ := p
  obtain ⟨c, t, e⟩ := q
  have hS : Tryz.prog.underlying 86 = some (.struct (Tryz.prog.fieldsOf 86)) := by kernel_rfl
  have hp : Tryz.prog.stoodInHeld 86 = false := by kernel_rfl
  have u3 := Tryz.underlying3
  have a3 := Tryz.isAgg3
  have z3 := Tryz.sizeOf3
  rw [run_equalIn_agg w (d + 1) 86 _ _ hS hp]
  simp only [Program.fieldsOf, Tryz.underlying86]
  by_cases h1 : a = c <;> by_cases h2 : s = t <;> by_cases h3 : b = e <;> simp [h1, h2, h3, ptr_eq, go_sem]
theorem neqPtr (p q : PtrM) (w : World) : (binOp .neq 86 (pv p) (pv q)).run Tryz.prog w = .ok (.bool (!decide (p = q))) w := by
  rw [run_neq_struct, show (10000 : Nat) = 9998 + 1 + 1 from rfl, equalPtr]; rfl
theorem neqEnt (p q : EntM) (w : World) : (binOp .neq 126 (entV p) (entV q)).run Tryz.prog w = .ok (.bool (!decide (p = q))) w := by
  obtain ⟨a, s, b⟩ := p
  obtain ⟨c, t, e⟩ := q
  have hS : Tryz.prog.underlying 126 = some (.struct (Tryz.prog.fieldsOf 126)) := by kernel_rfl
  have hp : Tryz.prog.stoodInHeld 126 = false := by kernel_rfl
  have u3 := Tryz.underlying3
  have a3 := Tryz.isAgg3
  have z3 := Tryz.sizeOf3
  unfold entV
  rw [run_neq_struct, show (10000 : Nat) = 9999 + 1 from rfl, run_equalIn_agg w 9999 126 _ _ hS hp]
  simp only [Program.fieldsOf, Tryz.underlying126]
  by_cases h1 : a = c <;> by_cases h2 : s = t <;> by_cases h3 : b = e <;> simp [h1, h2, h3, ent_eq, go_sem]
theorem eightP {α : Type} (ps : List α) (h : ps.length = 8) : ∃ a b c d e f g i, ps = [a, b, c, d, e, f, g, i] := by
  match ps, h with
  | [a, b, c, d, e, f, g, i], _ => exact ⟨a, b, c, d, e, f, g, i, rfl⟩
set_option maxHeartbeats 1000000 in
theorem equalMap (d : Nat) (ps qs : List PtrM) (hp : ps.length = 8) (hq : qs.length = 8) (w : World) : (Op.equalIn (d + 1 + 1 + 1) 87 (.agg (pcs ps).toArray) (.agg (pcs qs).toArray)).run Tryz.prog w = .ok (decide (ps = qs)) w := by
  obtain ⟨a, b, c, d0, e, f, g, i, rfl⟩ := eightP ps hp
  obtain ⟨a', b', c', d', e', f', g', i', rfl⟩ := eightP qs hq
  have hr : ∀ (p q : PtrM) (w : World), (Op.equalIn (d + 2) 86 (pv p) (pv q)).run Tryz.prog w = .ok (decide (p = q)) w := equalPtr d
  have x0 : ∀ (w : World), (part 86 (pcs [a, b, c, d0, e, f, g, i]).toArray 0).run Tryz.prog w = .ok (pv a) w := fun w => by kernel_rfl
  have y0 : ∀ (w : World), (part 86 (pcs [a', b', c', d', e', f', g', i']).toArray 0).run Tryz.prog w = .ok (pv a') w := fun w => by kernel_rfl
  have x1 : ∀ (w : World), (part 86 (pcs [a, b, c, d0, e, f, g, i]).toArray 3).run Tryz.prog w = .ok (pv b) w := fun w => by kernel_rfl
  have y1 : ∀ (w : World), (part 86 (pcs [a', b', c', d', e', f', g', i']).toArray 3).run Tryz.prog w = .ok (pv b') w := fun w => by kernel_rfl
  have x2 : ∀ (w : World), (part 86 (pcs [a, b, c, d0, e, f, g, i]).toArray 6).run Tryz.prog w = .ok (pv c) w := fun w => by kernel_rfl
  have y2 : ∀ (w : World), (part 86 (pcs [a', b', c', d', e', f', g', i']).toArray 6).run Tryz.prog w = .ok (pv c') w := fun w => by kernel_rfl
  have x3 : ∀ (w : World), (part 86 (pcs [a, b, c, d0, e, f, g, i]).toArray 9).run Tryz.prog w = .ok (pv d0) w := fun w => by kernel_rfl
  have y3 : ∀ (w : World), (part 86 (pcs [a', b', c', d', e', f', g', i']).toArray 9).run Tryz.prog w = .ok (pv d') w := fun w => by kernel_rfl
  have x4 : ∀ (w : World), (part 86 (pcs [a, b, c, d0, e, f, g, i]).toArray 12).run Tryz.prog w = .ok (pv e) w := fun w => by kernel_rfl
  have y4 : ∀ (w : World), (part 86 (pcs [a', b', c', d', e', f', g', i']).toArray 12).run Tryz.prog w = .ok (pv e') w := fun w => by kernel_rfl
  have x5 : ∀ (w : World), (part 86 (pcs [a, b, c, d0, e, f, g, i]).toArray 15).run Tryz.prog w = .ok (pv f) w := fun w => by kernel_rfl
  have y5 : ∀ (w : World), (part 86 (pcs [a', b', c', d', e', f', g', i']).toArray 15).run Tryz.prog w = .ok (pv f') w := fun w => by kernel_rfl
  have x6 : ∀ (w : World), (part 86 (pcs [a, b, c, d0, e, f, g, i]).toArray 18).run Tryz.prog w = .ok (pv g) w := fun w => by kernel_rfl
  have y6 : ∀ (w : World), (part 86 (pcs [a', b', c', d', e', f', g', i']).toArray 18).run Tryz.prog w = .ok (pv g') w := fun w => by kernel_rfl
  have x7 : ∀ (w : World), (part 86 (pcs [a, b, c, d0, e, f, g, i]).toArray 21).run Tryz.prog w = .ok (pv i) w := fun w => by kernel_rfl
  have y7 : ∀ (w : World), (part 86 (pcs [a', b', c', d', e', f', g', i']).toArray 21).run Tryz.prog w = .ok (pv i') w := fun w => by kernel_rfl
  generalize (pcs [a, b, c, d0, e, f, g, i]).toArray = X at *
  generalize (pcs [a', b', c', d', e', f', g', i']).toArray = Y at *
  have z9 := Tryz.sizeOf86
  rw [Op.equalIn]
  simp only [Sem.run_bind, run_underlying Tryz.underlying87, Result.andThen_ok, z9]
  simp [List.range', x0, y0, x1, y1, x2, y2, x3, y3, x4, y4, x5, y5, x6, y6, x7, y7, hr, Result.andThen]
  by_cases h0 : a = a'
  case neg => simp [h0, x0, y0, x1, y1, x2, y2, x3, y3, x4, y4, x5, y5, x6, y6, x7, y7, hr, Result.andThen]
  by_cases h1 : b = b'
  case neg => simp [h1, h0, x0, y0, x1, y1, x2, y2, x3, y3, x4, y4, x5, y5, x6, y6, x7, y7, hr, Result.andThen]
  by_cases h2 : c = c'
  case neg => simp [h2, h0, h1, x0, y0, x1, y1, x2, y2, x3, y3, x4, y4, x5, y5, x6, y6, x7, y7, hr, Result.andThen]
  by_cases h3 : d0 = d'
  case neg => simp [h3, h0, h1, h2, x0, y0, x1, y1, x2, y2, x3, y3, x4, y4, x5, y5, x6, y6, x7, y7, hr, Result.andThen]
  by_cases h4 : e = e'
  case neg => simp [h4, h0, h1, h2, h3, x0, y0, x1, y1, x2, y2, x3, y3, x4, y4, x5, y5, x6, y6, x7, y7, hr, Result.andThen]
  by_cases h5 : f = f'
  case neg => simp [h5, h0, h1, h2, h3, h4, x0, y0, x1, y1, x2, y2, x3, y3, x4, y4, x5, y5, x6, y6, x7, y7, hr, Result.andThen]
  by_cases h6 : g = g'
  case neg => simp [h6, h0, h1, h2, h3, h4, h5, x0, y0, x1, y1, x2, y2, x3, y3, x4, y4, x5, y5, x6, y6, x7, y7, hr, Result.andThen]
  by_cases h7 : i = i'
  case neg => simp [h7, h0, h1, h2, h3, h4, h5, h6, x0, y0, x1, y1, x2, y2, x3, y3, x4, y4, x5, y5, x6, y6, x7, y7, hr, Result.andThen]
  simp [h0, h1, h2, h3, h4, h5, h6, h7, x0, y0, x1, y1, x2, y2, x3, y3, x4, y4, x5, y5, x6, y6, x7, y7, hr, Result.andThen]
set_option maxHeartbeats 2000000 in
theorem neqCSet (x y : CSetM) (w : World) : (binOp .neq 89 (.agg (cc x).toArray) (.agg (cc y).toArray)).run Tryz.prog w = .ok (.bool (!decide (x = y))) w := by
  have hS : Tryz.prog.underlying 89 = some (.struct (Tryz.prog.fieldsOf 89)) := by kernel_rfl
  have hp : Tryz.prog.stoodInHeld 89 = false := by kernel_rfl
  have u3 := Tryz.underlying3
  have a3 := Tryz.isAgg3
  have z3 := Tryz.sizeOf3
  have h8 : ∀ w : World, (Op.equalIn 9999 87 (.agg (pcs x.map).toArray) (.agg (pcs y.map).toArray)).run Tryz.prog w = .ok (decide (x.map = y.map)) w := equalMap 9996 x.map y.map x.h8 y.h8
  have c0 : ∀ x : CSetM, (cc x)[0]? = some (.string x.name) := fun x => rfl
  have c1 : ∀ x : CSetM, (cc x)[1]? = some (.int .i64 x.kind) := fun x => rfl
  have c2 : ∀ x : CSetM, (cc x)[2]? = some (.string x.frm) := fun x => rfl
  have cm : ∀ x : CSetM, List.take 24 (List.drop 3 (cc x)) = pcs x.map := fun x => by
    have := cmap_len x
    simp [cc, ch, ← this]
  have ct : ∀ (x : CSetM) (k : Nat), (cc x)[k + 27]? = (pc x.home ++ [.bool x.dirty])[k]? := fun x k => by
    have := cmap_len x
    have e : (ch x ++ pcs x.map).length = 27 := by simp [ch, this]
    rw [cc, List.getElem?_append_right (by omega), e]
    congr 1
  have c3 : ∀ x : CSetM, (cc x)[27]? = some (.int .i64 x.home.at_) := fun x => ct x 0
  have c4 : ∀ x : CSetM, (cc x)[28]? = some (.int .i64 x.home.sum) := fun x => ct x 1
  have c5 : ∀ x : CSetM, (cc x)[29]? = some (.int .i64 x.home.birth) := fun x => ct x 2
  have c6 : ∀ x : CSetM, (cc x)[30]? = some (.bool x.dirty) := fun x => ct x 3
  clear ct
  rw [run_neq_struct, show (10000 : Nat) = 9999 + 1 from rfl, run_equalIn_agg w 9999 89 _ _ hS hp]
  simp only [Program.fieldsOf, Tryz.underlying89]
  have e3 : ∀ a b : ByteArray, a.toList = b.toList ↔ a = b := fun a b => by
    have h1 := beq_toListBytes a b
    rw [bytes_beq] at h1
    by_cases h : a = b
    · subst h; simp
    · rw [decide_eq_false h] at h1
      exact ⟨fun e => absurd e (beq_eq_false_iff_ne.1 h1.symm), fun e => absurd e h⟩
  go_simp
  try simp only [c0, c1, c2, c3, c4, c5, c6, cm]
  try go_simp
  have PE := @ptr_eq x.home y.home
  have CE := @cset_eq x y
  by_cases h1 : x.name = y.name
  case neg => simp [h1, CE]
  by_cases h2 : x.kind = y.kind
  case neg => simp [h1, h2, CE]
  by_cases h3 : x.frm = y.frm
  case neg => simp [h1, h2, h3, CE]
  by_cases h4 : x.map = y.map
  case neg => simp [h1, h2, h3, h4, CE]
  by_cases h5 : x.home.at_ = y.home.at_
  case neg => simp [h1, h2, h3, h4, h5, PE, CE, go_sem]
  by_cases h6 : x.home.sum = y.home.sum
  case neg => simp [h1, h2, h3, h4, h5, h6, PE, CE, go_sem]
  by_cases h7 : x.home.birth = y.home.birth
  case neg => simp [h1, h2, h3, h4, h5, h6, h7, PE, CE, go_sem]
  by_cases hd : x.dirty = y.dirty
  case neg => simp [h1, h2, h3, h4, h5, h6, h7, hd, PE, CE, go_sem]
  simp [h1, h2, h3, h4, h5, h6, h7, hd, PE, CE, go_sem]
end Go.Proofs.YtobjgdnmlibofaaGreat

/-
  slices.Equal at the core's lists, and spec's l6Ints.
-/
set_option maxRecDepth 100000
namespace Go.Proofs.YtobjgdnmlibofaaGreat
open Go.ChangeShapes Go.WideShapes Go.ChangeAt Go.RowKit Go.Proofs.Palim

theorem guardPtr (op : BinOp) (a b : Operand) (xs ys : Array Value) (w : World) : (eqGuard op 86 a b (.agg xs) (.agg ys)).run Tryz.prog w = .ok () w := run_eqGuard_agg w op 86 a b xs ys (by kernel_rfl)
theorem guardEnt (op : BinOp) (a b : Operand) (xs ys : Array Value) (w : World) : (eqGuard op 126 a b (.agg xs) (.agg ys)).run Tryz.prog w = .ok () w := run_eqGuard_agg w op 126 a b xs ys (by kernel_rfl)
theorem guardCSet (op : BinOp) (a b : Operand) (xs ys : Array Value) (w : World) : (eqGuard op 89 a b (.agg xs) (.agg ys)).run Tryz.prog w = .ok () w := run_eqGuard_agg w op 89 a b xs ys (by kernel_rfl)
theorem neqPtr_is (x y : PtrM) (r : Bool) (h : decide (x = y) = r) (w : World) : (binOp .neq 86 (.agg #[.int .i64 x.at_, .int .i64 x.sum, .int .i64 x.birth]) (.agg #[.int .i64 y.at_, .int .i64 y.sum, .int .i64 y.birth])).run Tryz.prog w = .ok (.bool (!r)) w := h ▸ neqPtr x y w
theorem neqEnt_is (x y : EntM) (r : Bool) (h : decide (x = y) = r) (w : World) : (binOp .neq 126 (.agg #[.int .i64 x.sum, .int .i64 x.at_, .int .i64 x.count]) (.agg #[.int .i64 y.sum, .int .i64 y.at_, .int .i64 y.count])).run Tryz.prog w = .ok (.bool (!r)) w := h ▸ neqEnt x y w
theorem neqCSet_is (x y : CSetM) (r : Bool) (h : decide (x = y) = r) (w : World) : (binOp .neq 89 (.agg (cc x).toArray) (.agg (cc y).toArray)).run Tryz.prog w = .ok (.bool (!r)) w := h ▸ neqCSet x y w

set_option maxHeartbeats 2000000 in
theorem equalEn_any (va vb : Value) (ss tt : List EntM) (w : World) (ha : Sl w 3 va ss.length (ecs ss)) (hb : Sl w 3 vb tt.length (ecs tt)) (hs : ss.length ≤ 1048576) (ht : tt.length ≤ 1048576) :
    Calls Tryz.prog 136 #[va, vb] w (Drawn (.bool (decide (ss = tt))) w) := by
  obtain ⟨n, HN⟩ : ∃ n, Hid (ss.length = n) := ⟨_, Lib.hid rfl⟩
  obtain ⟨m, HM⟩ : ∃ m, Hid (tt.length = m) := ⟨_, Lib.hid rfl⟩
  rw [HN.out] at ha hs
  rw [HM.out] at hb ht
  by_cases hnm : n = m
  · subst hnm
    by_cases hn : n = 0
    · subst hn
      have HE := Lib.hid (show ss = tt from by rw [List.length_eq_zero_iff.1 HN.out, List.length_eq_zero_iff.1 HM.out])
      obtain ⟨_, A, c, rfl, _, _, _⟩ := ha
      obtain ⟨_, A', c', rfl, _, _, _⟩ := hb
      go_enter Tryz.func136, Tryz.ntmps136
      go_wp2
      go_loopw [13] (fun i wr => i = .int .i64 0 ∧ wr = w) (fun _ _ => 0)
      case atStart => exact ⟨rfl, rfl⟩
      case round =>
        obtain ⟨rfl, rfl⟩ := hrel
        go_wp2
        go_ret
        exact ⟨ret_boolB (decide_eq_true HE.out).symm, 0, rfl⟩
    · obtain ⟨b, off, c, rfl, hnc, hcm, hcell⟩ := ha.form (by omega)
      obtain ⟨b', off', c', rfl, hnc', hcm', hcell'⟩ := hb.form (by omega)
      have HC := Lib.hid hcell
      have HC' := Lib.hid hcell'
      unfold maxLen at hcm hcm'
      clear hcell hcell' ha hb
      go_enter Tryz.func136, Tryz.ntmps136
      go_wp2
      go_loopw [13] (fun i wr => ∃ (k q : Nat), k ≤ n ∧ i = .int .i64 k ∧ wr = w.drewN q ∧ Hid (∀ (j : Nat) (h0 : j < ss.length) (h1 : j < tt.length), j < k → ss[j] = tt[j])) (fun i _ => n - (intOf i).toNat)
      case atStart => exact ⟨0, 0, Nat.zero_le _, rfl, rfl, Lib.hid (fun j _ _ h => absurd h (Nat.not_lt_zero _))⟩
      case round =>
        obtain ⟨k, q, hk, rfl, rfl, HK⟩ := hrel
        by_cases hlt : k < n
        · have hl0 : k < ss.length := by rw [HN.out]; exact hlt
          have hl1 : k < tt.length := by rw [HM.out]; exact hlt
          have hrx := ent_read HC.out k hl0
          have hry := ent_read HC'.out k hl1
          have HK1 := Lib.hid (show ss[k] = tt[k] → ∀ (j : Nat) (h0 : j < ss.length) (h1 : j < tt.length), j < k + 1 → ss[j] = tt[j] from fun hh j h0 h1 hj => by
            rcases Nat.lt_succ_iff_lt_or_eq.1 hj with h | rfl
            · exact HK.out j h0 h1 h
            · exact hh)
          have HNE := Lib.hid (show ss[k] ≠ tt[k] → ss ≠ tt from fun hh e => by subst e; exact hh rfl)
          have hk1 : (k : Int) < (n : Int) := by omega
          generalize ss[k] = x at hrx HK1 HNE
          generalize tt[k] = y at hry HK1 HNE
          obtain ⟨p1, p2, p3⟩ := hrx
          obtain ⟨r1, r2, r3⟩ := hry
          have hgd := guardEnt
          clear HK hl0 hl1
          by_cases hxy : x = y
          · have HK2 := Lib.hid (HK1.out hxy)
            subst hxy
            have hq := neqEnt_is x x true (decide_eq_true rfl)
            clear HK1 HNE
            go_wp2_with fail
            go_quiet (fail)
            go_wp2
            go_roundw
            case rel => exact ⟨k + 1, _, by omega, by go_num, rfl, HK2⟩
            case measure => simp [intOf]; omega
          · have HF := Lib.hid (decide_eq_false (HNE.out hxy)).symm
            have hq := neqEnt_is x y false (decide_eq_false hxy)
            clear hxy
            clear HK1 HNE
            go_wp2_with fail
            go_quiet (fail)
            go_wp2
            go_ret
            exact ⟨ret_boolB HF.out, q + nq, by simp [World.drewN, Nat.add_assoc]⟩
        · have HE := Lib.hid (show ss = tt from list_eq_ofB (HN.out.trans HM.out.symm) fun j h0 h1 => HK.out j h0 h1 (by have := HN.out; omega))
          clear HK
          go_wp2
          go_ret
          exact ⟨ret_boolB (decide_eq_true HE.out).symm, q, rfl⟩
  · have HE := Lib.hid (decide_eq_false (show ss ≠ tt from fun e => hnm (by rw [← HN.out, ← HM.out, e]))).symm
    obtain ⟨_, A, c, rfl, _, _, _⟩ := ha
    obtain ⟨_, A', c', rfl, _, _, _⟩ := hb
    go_enter Tryz.func136, Tryz.ntmps136
    go_wp2
    go_ret
    exact ⟨ret_boolB HE.out, 0, rfl⟩

end Go.Proofs.YtobjgdnmlibofaaGreat

/-
  impl: whether a core's sets are right, and whether its table tells its pointers.
-/
set_option maxRecDepth 100000
namespace Go.Proofs.YtobjgdnmlibofaaGreat
open Go.ChangeShapes Go.WideShapes Go.ChangeAt Go.RowKit Go.Proofs.Palim

theorem names_short {ls : List CSetM} (hn : ls.length ≤ 1048576) (hz : ∀ x ∈ ls, x.name.size ≤ 1048576 ∧ x.frm.size ≤ 1048576) : BookShort (namesM ls) := by
  refine ⟨by rw [namesM_length]; exact hn, fun y hy => ?_⟩
  obtain ⟨x, hx, rfl⟩ := List.mem_map.1 hy
  refine ⟨(hz x hx).1, (hz x hx).2, fun s hs => ?_⟩
  simp [nameM, SetM.bs] at hs
  subst hs
  show (0 : Nat) ≤ _
  omega

set_option maxHeartbeats 4000000 in
theorem implSets_any (v : Value) (ls : List CSetM) (w : World) (h : Sl w 31 v ls.length (ccs ls)) (hv : Low w.heap.size v) (hl : ls.length ≤ 1048576) (hz : ∀ x ∈ ls, x.name.size ≤ 1048576 ∧ x.frm.size ≤ 1048576) :
    Calls Tryz.prog 114 #[v] w fun e w' => e = .returned (.bool (decide ((∀ x ∈ ls, SetOkC x) ∧ BookOkM (namesM ls)))) ∧ Below w.heap.size w w' := by
  have hnot : ∀ (x : Bool) (w : World), (Op.unary .not (.bool x)).run Tryz.prog w = .ok (.bool (!x)) w := fun _ _ => rfl
  obtain ⟨ok, HOK⟩ : ∃ ok, Hid (decide ((∀ x ∈ ls, SetOkC x) ∧ BookOkM (namesM ls)) = ok) := ⟨_, Lib.hid rfl⟩
  rw [HOK.out]
  obtain ⟨n, HL⟩ : ∃ n, Hid (ls.length = n) := ⟨_, Lib.hid rfl⟩
  have HZ := Lib.hid hz
  have HFIN := Lib.hid (show (∀ (j : Nat) (h : j < ls.length), j < n → SetOkC ls[j]) → decide (BookOkM (namesM ls)) = ok from fun hg => by
    rw [← HOK.out]
    have hp : ∀ x ∈ ls, SetOkC x := fun p hp => by
      obtain ⟨i, hi, rfl⟩ := List.mem_iff_getElem.1 hp
      exact hg i hi (by have := HL.out; omega)
    by_cases h8 : BookOkM (namesM ls)
    · rw [decide_eq_true h8, decide_eq_true ⟨hp, h8⟩]
    · rw [decide_eq_false h8, decide_eq_false (fun c => h8 c.2)])
  rw [HL.out] at h hl
  have hnm := h.le
  unfold maxLen at hnm
  have HS := Lib.hid h
  have HV := Lib.hid hv
  obtain ⟨_, A, c, rfl, _, hcm, _⟩ := h
  unfold maxLen at hcm
  clear hv hz
  go_enter Tryz.func114, Tryz.ntmps114
  go_wp2
  go_loopw [4, 7] (fun _ i wr => ∃ (k : Nat), k ≤ n ∧ i = .int .i64 k ∧ Hid (Below w.heap.size w wr) ∧ Hid (∀ (j : Nat) (h : j < ls.length), j < k → SetOkC ls[j])) (fun _ i _ => n - (RowKit.intOf i).toNat)
  case atStart => exact ⟨0, Nat.zero_le _, rfl, Lib.hid (Below.refl _ _), Lib.hid (fun j _ h => absurd h (Nat.not_lt_zero _))⟩
  case round =>
    obtain ⟨k, hk, rfl, HB, HG⟩ := hrel
    by_cases hlt : k < n
    case pos =>
      have hl0 : k < ls.length := by rw [HL.out]; exact hlt
      obtain ⟨b, off, c', hvv, _, _, hcell⟩ := (HS.out.below HB.out HV.out).form (by omega)
      injection hvv with e1 e2 e3
      subst e1 e3
      clear e2
      have HRD := Lib.hid (cset_read hcell k hl0)
      have hk1 : (k : Int) < (n : Int) := by omega
      have HBS := Lib.hid (show ¬ SetOkC ls[k] → false = ok from fun h => HOK.out ▸ (decide_eq_false (fun c => h (c.1 _ (List.getElem_mem hl0)))).symm)
      have HGS := Lib.hid (show SetOkC ls[k] → ∀ (j : Nat) (h : j < ls.length), j < k + 1 → SetOkC ls[j] from fun hg j hj hjk => by
        by_cases e : j = k
        · subst e; exact hg
        · exact HG.out j hj (by omega))
      have HZK := Lib.hid (HZ.out _ (List.getElem_mem hl0))
      generalize ls[k] = x at HRD HBS HGS HZK
      clear HG hl0 hcell
      have hn1 := Below.new1 (w := wr) (.cells #[.string ⟨#[]⟩, .int .i64 0, .string ⟨#[]⟩, .int .i64 0, .int .i64 0, .int .i64 0, .int .i64 0, .int .i64 0, .int .i64 0, .int .i64 0, .int .i64 0, .int .i64 0, .int .i64 0, .int .i64 0, .int .i64 0, .int .i64 0, .int .i64 0, .int .i64 0, .int .i64 0, .int .i64 0, .int .i64 0, .int .i64 0, .int .i64 0, .int .i64 0, .int .i64 0, .int .i64 0, .int .i64 0, .int .i64 0, .int .i64 0, .int .i64 0, .bool false] 89)
      have HBX := Lib.hid ((show Box _ wr.heap.size [.string ⟨#[]⟩, .int .i64 0, .string ⟨#[]⟩, .int .i64 0, .int .i64 0, .int .i64 0, .int .i64 0, .int .i64 0, .int .i64 0, .int .i64 0, .int .i64 0, .int .i64 0, .int .i64 0, .int .i64 0, .int .i64 0, .int .i64 0, .int .i64 0, .int .i64 0, .int .i64 0, .int .i64 0, .int .i64 0, .int .i64 0, .int .i64 0, .int .i64 0, .int .i64 0, .int .i64 0, .int .i64 0, .int .i64 0, .int .i64 0, .int .i64 0, .bool false] from box_new wr #[.string ⟨#[]⟩, .int .i64 0, .string ⟨#[]⟩, .int .i64 0, .int .i64 0, .int .i64 0, .int .i64 0, .int .i64 0, .int .i64 0, .int .i64 0, .int .i64 0, .int .i64 0, .int .i64 0, .int .i64 0, .int .i64 0, .int .i64 0, .int .i64 0, .int .i64 0, .int .i64 0, .int .i64 0, .int .i64 0, .int .i64 0, .int .i64 0, .int .i64 0, .int .i64 0, .int .i64 0, .int .i64 0, .int .i64 0, .int .i64 0, .int .i64 0, .bool false] 89).putAll (cc x) (by rw [cc_length]; rfl))
      have hpb : Below wr.heap.size wr (putC (wr.alloc (.cells #[.string ⟨#[]⟩, .int .i64 0, .string ⟨#[]⟩, .int .i64 0, .int .i64 0, .int .i64 0, .int .i64 0, .int .i64 0, .int .i64 0, .int .i64 0, .int .i64 0, .int .i64 0, .int .i64 0, .int .i64 0, .int .i64 0, .int .i64 0, .int .i64 0, .int .i64 0, .int .i64 0, .int .i64 0, .int .i64 0, .int .i64 0, .int .i64 0, .int .i64 0, .int .i64 0, .int .i64 0, .int .i64 0, .int .i64 0, .int .i64 0, .int .i64 0, .bool false] 89)) wr.heap.size 0 (cc x)) := putC_below hn1 _ _ (Nat.le_refl _) _
      have HNX := Lib.hid (show Box _ wr.heap.size [.string ⟨#[]⟩, .int .i64 0, .string ⟨#[]⟩, .int .i64 0, .int .i64 0, .int .i64 0, .int .i64 0, .int .i64 0, .int .i64 0, .int .i64 0, .int .i64 0, .int .i64 0, .int .i64 0, .int .i64 0, .int .i64 0, .int .i64 0, .int .i64 0, .int .i64 0, .int .i64 0, .int .i64 0, .int .i64 0, .int .i64 0, .int .i64 0, .int .i64 0, .int .i64 0, .int .i64 0, .int .i64 0, .int .i64 0, .int .i64 0, .int .i64 0, .bool false] from box_new wr #[.string ⟨#[]⟩, .int .i64 0, .string ⟨#[]⟩, .int .i64 0, .int .i64 0, .int .i64 0, .int .i64 0, .int .i64 0, .int .i64 0, .int .i64 0, .int .i64 0, .int .i64 0, .int .i64 0, .int .i64 0, .int .i64 0, .int .i64 0, .int .i64 0, .int .i64 0, .int .i64 0, .int .i64 0, .int .i64 0, .int .i64 0, .int .i64 0, .int .i64 0, .int .i64 0, .int .i64 0, .int .i64 0, .int .i64 0, .int .i64 0, .int .i64 0, .bool false] 89)
      have HB1 := Lib.hid (HB.out.trans (hpb.mono HB.out.size))
      clear hn1 hpb HB
      go_wp2_with (first | (refine wpList_load_cs rfl _ rfl aggSetD rfl (cc x) (cc_length x) HRD.out ?_) | (refine wpList_load_box rfl _ rfl aggSetD rfl (cc x) (cc_length x) HBX.out ?_) | (refine wpList_store_box rfl _ _ rfl rfl aggSetD rfl (cc x) rfl (cc_length x) (cc_one x) [.string ⟨#[]⟩, .int .i64 0, .string ⟨#[]⟩, .int .i64 0, .int .i64 0, .int .i64 0, .int .i64 0, .int .i64 0, .int .i64 0, .int .i64 0, .int .i64 0, .int .i64 0, .int .i64 0, .int .i64 0, .int .i64 0, .int .i64 0, .int .i64 0, .int .i64 0, .int .i64 0, .int .i64 0, .int .i64 0, .int .i64 0, .int .i64 0, .int .i64 0, .int .i64 0, .int .i64 0, .int .i64 0, .int .i64 0, .int .i64 0, .int .i64 0, .bool false] HNX.out rfl ?_; clear HNX; generalize putC (wr.alloc (.cells #[.string ⟨#[]⟩, .int .i64 0, .string ⟨#[]⟩, .int .i64 0, .int .i64 0, .int .i64 0, .int .i64 0, .int .i64 0, .int .i64 0, .int .i64 0, .int .i64 0, .int .i64 0, .int .i64 0, .int .i64 0, .int .i64 0, .int .i64 0, .int .i64 0, .int .i64 0, .int .i64 0, .int .i64 0, .int .i64 0, .int .i64 0, .int .i64 0, .int .i64 0, .int .i64 0, .int .i64 0, .int .i64 0, .int .i64 0, .int .i64 0, .int .i64 0, .bool false] 89)) wr.heap.size 0 (cc x) = W1 at HBX  HB1 ⊢))
      by_cases hg : SetOkC x
      case neg =>
        have HF := Lib.hid (HBS.out hg)
        have hor := decide_eq_false hg
        clear hg HBS HGS
        refine (implSet_is x _ _ HZK.out hor).mono ?_
        rintro e w2 ⟨rfl, hb⟩
        have HB2 := Lib.hid (HB1.out.trans (hb.mono HB1.out.size))
        clear hb HBX
        go_wp2
        go_ret
        exact ⟨ret_boolB HF.out, HB2.out⟩
      case pos =>
        have HG1 := Lib.hid (HGS.out hg)
        have hor := decide_eq_true hg
        clear hg HBS HGS
        refine (implSet_is x _ _ HZK.out hor).mono ?_
        rintro e w2 ⟨rfl, hb⟩
        have HB2 := Lib.hid (HB1.out.trans (hb.mono HB1.out.size))
        clear hb HBX
        go_wp2
        go_roundw
        case rel => exact ⟨k + 1, by omega, by go_num, HB2, HG1⟩
        case measure => simp [RowKit.intOf]; omega
    case neg =>
      have HF := Lib.hid (HFIN.out (fun j hj _ => HG.out j hj (by have := HL.out; omega)))
      have HSL := Lib.hid (show Sl wr 31 (.slice A n c) ls.length (ccs ls) from by rw [HL.out]; exact HS.out.below HB.out HV.out)
      have HLL := Lib.hid (fun b e => Nat.lt_of_lt_of_le (HV.out b e) HB.out.size)
      have HNN := Lib.hid (names_short (by rw [HL.out]; exact hl) HZ.out)
      clear HG HFIN
      go_wp2_with fail
      refine (outline_any _ ls _ HSL.out HLL.out (by rw [HL.out]; exact hl)).mono ?_
      rintro e w2 ⟨u, rfl, hown, hb⟩
      have HBR := Lib.hid (show BookR w2 u (namesM ls) from ⟨by rw [namesM_length]; exact sl_of_own hown, fun b e => (hown.lt b e).2⟩)
      have HB2 := Lib.hid (HB.out.trans (hb.mono HB.out.size))
      clear hb hown
      go_wp2_with fail
      refine (ImplBookOk_any _ _ _ HBR.out HNN.out).mono ?_
      rintro e w3 ⟨rfl, hb⟩
      have HB3 := Lib.hid (HB2.out.trans (hb.mono HB2.out.size))
      clear hb
      go_wp2
      go_ret
      exact ⟨ret_boolB HF.out, HB3.out⟩
theorem implSets_is (v : Value) (ls : List CSetM) (r : Bool) (w : World) (h : Sl w 31 v ls.length (ccs ls)) (hv : Low w.heap.size v) (hl : ls.length ≤ 1048576) (hz : ∀ x ∈ ls, x.name.size ≤ 1048576 ∧ x.frm.size ≤ 1048576) (hr : decide ((∀ x ∈ ls, SetOkC x) ∧ BookOkM (namesM ls)) = r) :
    Calls Tryz.prog 114 #[v] w fun e w' => e = .returned (.bool r) ∧ Below w.heap.size w w' := hr ▸ implSets_any v ls w h hv hl hz

structure TInv (T : List EntM) : Prop where
  asc : AscE T
  ok : ∀ e ∈ T, EntOkM e
  len : T.length ≤ 48

set_option maxHeartbeats 8000000 in
theorem implCounts_any (vs vd vp vi : Value) (c : CoreM) (w : World) (h : CoreR w vs vd vp vi c) (hs : CoreShort c) (hset : ∀ x ∈ c.sets, SetOkC x) (hddt : c.ddt.length ≤ 48) :
    Calls Tryz.prog 115 #[cv c vs vd vp vi] w fun e w' => e = .returned (.bool (decide (tabM (ptsM c.sets) [] = some c.ddt))) ∧ Below w.heap.size w w' := by
  have hnot : ∀ (x : Bool) (w : World), (Op.unary .not (.bool x)).run Tryz.prog w = .ok (.bool (!x)) w := fun _ _ => rfl
  have hmm := @run_makeMap Tryz.prog
  obtain ⟨R, HR⟩ : ∃ R, Hid (tabM (ptsM c.sets) [] = R) := ⟨_, Lib.hid rfl⟩
  rw [HR.out]
  obtain ⟨txg, sets, ddt, parts, dirty, safe, logn⟩ := c
  simp only at HR hset hddt ⊢
  have HSH := Lib.hid hs
  have HSET := Lib.hid hset
  obtain ⟨A0, k0, A1, k1, A2, k2, A3, k3, e0, e1, e2, e3⟩ := h.forms
  dsimp only at e0 e1 e2 e3
  subst e0 e1 e2 e3
  have HRR := Lib.hid h
  have HS := Lib.hid h.s
  have HLS := Lib.hid h.ls
  obtain ⟨n, HL⟩ : ∃ n, Hid (sets.length = n) := ⟨_, Lib.hid rfl⟩
  have hln : n ≤ 1048576 := HL.out ▸ hs.s
  clear h hs hset
  dsimp only at HS HLS
  rw [HL.out] at HS HLS
  have XC := Lib.hid (show Box _ w.heap.size [.int .i64 txg, .slice A0 n k0, .slice A1 ddt.length k1, .slice A2 parts.length k2, .bool dirty, .slice A3 safe.length k3, .int .i64 logn] from box_new w #[.int .i64 txg, .slice A0 n k0, .slice A1 ddt.length k1, .slice A2 parts.length k2, .bool dirty, .slice A3 safe.length k3, .int .i64 logn] 44)
  have B0 := Lib.hid (Below.new1 (w := w) (.cells #[.int .i64 txg, .slice A0 n k0, .slice A1 ddt.length k1, .slice A2 parts.length k2, .bool dirty, .slice A3 safe.length k3, .int .i64 logn] 44))
  go_enter Tryz.func115, Tryz.ntmps115
  go_upto_region 1 with fail
  rw [HL.out]
  obtain ⟨W0, HWE⟩ : ∃ W0, w.alloc (.cells #[.int .i64 txg, .slice A0 n k0, .slice A1 ddt.length k1, .slice A2 parts.length k2, .bool dirty, .slice A3 safe.length k3, .int .i64 logn] 44) = W0 := ⟨_, rfl⟩
  have hW0 : W0.heap.size = w.heap.size + 1 := by rw [← HWE]; simp
  rw [HWE] at XC B0 ⊢
  clear HWE
  have hm0 := Below.new1 (w := W0) (.map #[] 0)
  have HM0 := Lib.hid (mapE_made W0)
  have XC1 := Lib.hid (XC.out.below hm0 XC.out.lt)
  have B1 := Lib.hid (B0.out.trans (hm0.mono B0.out.size))
  have n1 := XC1.out.cell 1 rfl
  clear hm0 XC B0
  go_wp2
  rw [hW0] at HM0
  obtain ⟨W2, HWE⟩ : ∃ W2, W0.alloc (.map #[] 0) = W2 := ⟨_, rfl⟩
  rw [HWE] at HM0 XC1 B1 ⊢
  clear HWE n1
  try rw [hW0]
  go_loopw [5, 12] (fun _ i wr => ∃ (k : Nat) (T : List EntM), k ≤ n ∧ i = .int .i64 k ∧ Hid (Below w.heap.size w wr) ∧ Hid (Box wr w.heap.size [.int .i64 txg, .slice A0 n k0, .slice A1 ddt.length k1, .slice A2 parts.length k2, .bool dirty, .slice A3 safe.length k3, .int .i64 logn]) ∧ Hid (MapE wr (w.heap.size + 1) T) ∧ Hid (TInv T) ∧ Hid (tabM (ptsM (sets.drop k)) T = R)) (fun _ i _ => n - (RowKit.intOf i).toNat)
  case atStart => exact ⟨0, [], Nat.zero_le _, rfl, B1, XC1, HM0, Lib.hid ⟨List.Pairwise.nil, by simp, by simp⟩, HR⟩
  case round =>
    obtain ⟨k, T, hk, rfl, HB, HX, HM, HT, HTR⟩ := hrel
    clear B1 XC1 HM0
    by_cases hlt : k < n
    case pos =>
      have hl0 : k < sets.length := by rw [HL.out]; exact hlt
      obtain ⟨b, off, c', hvv, _, _, hcell⟩ := (HS.out.below HB.out HLS.out).form (by omega)
      injection hvv with e1 e2 e3
      subst e1 e3
      clear e2
      have HRD := Lib.hid (cset_read hcell k hl0)
      have hk1 : (k : Int) < (n : Int) := by omega
      have HOK := Lib.hid (HSET.out _ (List.getElem_mem hl0))
      have HTR1 := Lib.hid (show tabM (sets[k].map ++ ptsM (sets.drop (k + 1))) T = R from by
        have e : ptsM (sets.drop k) = sets[k].map ++ ptsM (sets.drop (k + 1)) := by unfold ptsM; rw [List.drop_eq_getElem_cons hl0, List.flatMap_cons]
        rw [← HTR.out, e])
      generalize sets[k] = x at HRD HOK HTR1
      clear HTR hl0 hcell
      have H8 := Lib.hid x.h8
      have hn1 := Below.new1 (w := wr) (.cells #[.string ⟨#[]⟩, .int .i64 0, .string ⟨#[]⟩, .int .i64 0, .int .i64 0, .int .i64 0, .int .i64 0, .int .i64 0, .int .i64 0, .int .i64 0, .int .i64 0, .int .i64 0, .int .i64 0, .int .i64 0, .int .i64 0, .int .i64 0, .int .i64 0, .int .i64 0, .int .i64 0, .int .i64 0, .int .i64 0, .int .i64 0, .int .i64 0, .int .i64 0, .int .i64 0, .int .i64 0, .int .i64 0, .int .i64 0, .int .i64 0, .int .i64 0, .bool false] 89)
      have HBX := Lib.hid ((show Box _ wr.heap.size [.string ⟨#[]⟩, .int .i64 0, .string ⟨#[]⟩, .int .i64 0, .int .i64 0, .int .i64 0, .int .i64 0, .int .i64 0, .int .i64 0, .int .i64 0, .int .i64 0, .int .i64 0, .int .i64 0, .int .i64 0, .int .i64 0, .int .i64 0, .int .i64 0, .int .i64 0, .int .i64 0, .int .i64 0, .int .i64 0, .int .i64 0, .int .i64 0, .int .i64 0, .int .i64 0, .int .i64 0, .int .i64 0, .int .i64 0, .int .i64 0, .int .i64 0, .bool false] from box_new wr #[.string ⟨#[]⟩, .int .i64 0, .string ⟨#[]⟩, .int .i64 0, .int .i64 0, .int .i64 0, .int .i64 0, .int .i64 0, .int .i64 0, .int .i64 0, .int .i64 0, .int .i64 0, .int .i64 0, .int .i64 0, .int .i64 0, .int .i64 0, .int .i64 0, .int .i64 0, .int .i64 0, .int .i64 0, .int .i64 0, .int .i64 0, .int .i64 0, .int .i64 0, .int .i64 0, .int .i64 0, .int .i64 0, .int .i64 0, .int .i64 0, .int .i64 0, .bool false] 89).putAll (cc x) (by rw [cc_length]; rfl))
      have hpb : Below wr.heap.size wr (putC (wr.alloc (.cells #[.string ⟨#[]⟩, .int .i64 0, .string ⟨#[]⟩, .int .i64 0, .int .i64 0, .int .i64 0, .int .i64 0, .int .i64 0, .int .i64 0, .int .i64 0, .int .i64 0, .int .i64 0, .int .i64 0, .int .i64 0, .int .i64 0, .int .i64 0, .int .i64 0, .int .i64 0, .int .i64 0, .int .i64 0, .int .i64 0, .int .i64 0, .int .i64 0, .int .i64 0, .int .i64 0, .int .i64 0, .int .i64 0, .int .i64 0, .int .i64 0, .int .i64 0, .bool false] 89)) wr.heap.size 0 (cc x)) := putC_below hn1 _ _ (Nat.le_refl _) _
      have HNX := Lib.hid (show Box _ wr.heap.size [.string ⟨#[]⟩, .int .i64 0, .string ⟨#[]⟩, .int .i64 0, .int .i64 0, .int .i64 0, .int .i64 0, .int .i64 0, .int .i64 0, .int .i64 0, .int .i64 0, .int .i64 0, .int .i64 0, .int .i64 0, .int .i64 0, .int .i64 0, .int .i64 0, .int .i64 0, .int .i64 0, .int .i64 0, .int .i64 0, .int .i64 0, .int .i64 0, .int .i64 0, .int .i64 0, .int .i64 0, .int .i64 0, .int .i64 0, .int .i64 0, .int .i64 0, .bool false] from box_new wr #[.string ⟨#[]⟩, .int .i64 0, .string ⟨#[]⟩, .int .i64 0, .int .i64 0, .int .i64 0, .int .i64 0, .int .i64 0, .int .i64 0, .int .i64 0, .int .i64 0, .int .i64 0, .int .i64 0, .int .i64 0, .int .i64 0, .int .i64 0, .int .i64 0, .int .i64 0, .int .i64 0, .int .i64 0, .int .i64 0, .int .i64 0, .int .i64 0, .int .i64 0, .int .i64 0, .int .i64 0, .int .i64 0, .int .i64 0, .int .i64 0, .int .i64 0, .bool false] 89)
      have HB1 := Lib.hid (HB.out.trans (hpb.mono HB.out.size))
      have HX1 := Lib.hid (HX.out.below hpb HX.out.lt)
      have HM1 := Lib.hid (HM.out.below hpb HM.out.lt)
      clear hn1 hpb HB HX HM
      go_wp2_with (first | (refine wpList_load_cs rfl _ rfl aggSetD rfl (cc x) (cc_length x) HRD.out ?_) | (refine wpList_load_cs rfl _ rfl aggMap rfl (pcs x.map) (cmap_len x) (Box.part (p := ch x) (m := pcs x.map) (q := pc x.home ++ [.bool x.dirty]) HBX.out 3 rfl) ?_) | (refine wpList_store_box rfl _ _ rfl rfl aggSetD rfl (cc x) rfl (cc_length x) (cc_one x) [.string ⟨#[]⟩, .int .i64 0, .string ⟨#[]⟩, .int .i64 0, .int .i64 0, .int .i64 0, .int .i64 0, .int .i64 0, .int .i64 0, .int .i64 0, .int .i64 0, .int .i64 0, .int .i64 0, .int .i64 0, .int .i64 0, .int .i64 0, .int .i64 0, .int .i64 0, .int .i64 0, .int .i64 0, .int .i64 0, .int .i64 0, .int .i64 0, .int .i64 0, .int .i64 0, .int .i64 0, .int .i64 0, .int .i64 0, .int .i64 0, .int .i64 0, .bool false] HNX.out rfl ?_; clear HNX; generalize putC (wr.alloc (.cells #[.string ⟨#[]⟩, .int .i64 0, .string ⟨#[]⟩, .int .i64 0, .int .i64 0, .int .i64 0, .int .i64 0, .int .i64 0, .int .i64 0, .int .i64 0, .int .i64 0, .int .i64 0, .int .i64 0, .int .i64 0, .int .i64 0, .int .i64 0, .int .i64 0, .int .i64 0, .int .i64 0, .int .i64 0, .int .i64 0, .int .i64 0, .int .i64 0, .int .i64 0, .int .i64 0, .int .i64 0, .int .i64 0, .int .i64 0, .int .i64 0, .int .i64 0, .bool false] 89)) wr.heap.size 0 (cc x) = W1 at HBX  HB1 HX1 HM1 ⊢))
      go_loopw [7, 18] (fun _ i wr => ∃ (j : Nat) (T : List EntM), j ≤ 8 ∧ i = .int .i64 j ∧ Hid (Below w.heap.size w wr) ∧ Hid (Box wr w.heap.size [.int .i64 txg, .slice (some ⟨b, off, none⟩) n k0, .slice A1 ddt.length k1, .slice A2 parts.length k2, .bool dirty, .slice A3 safe.length k3, .int .i64 logn]) ∧ Hid (MapE wr (w.heap.size + 1) T) ∧ Hid (TInv T) ∧ Hid (tabM (x.map.drop j ++ ptsM (sets.drop (k + 1))) T = R)) (fun _ i _ => 8 - (RowKit.intOf i).toNat)
      case atStart => exact ⟨0, T, Nat.zero_le _, rfl, HB1, HX1, HM1, HT, HTR1⟩
      case round =>
        clear HB1 HX1 HM1 HT HTR1 HBX
        obtain ⟨j, T, hj, rfl, HB, HX, HM, HT, HTR⟩ := hrel
        by_cases hj8 : j < 8
        case pos =>
          have hjl : j < x.map.length := by rw [H8.out]; exact hj8
          have hj1 : (j : Int) < 8 := by omega
          have hix := idxMapD x.map H8.out j hjl
          have hpo : PtrOkM x.map[j] := HOK.out.2.2.2.2 _ (List.getElem_mem hjl)
          have HTR1 := Lib.hid (show tabM (x.map[j] :: (x.map.drop (j + 1) ++ ptsM (sets.drop (k + 1)))) T = R from by
            have e : x.map.drop j = x.map[j] :: x.map.drop (j + 1) := List.drop_eq_getElem_cons hjl
            rw [← HTR.out, e]
            rfl)
          generalize x.map[j] = p at hix hpo HTR1
          clear HTR hjl
          obtain ⟨a, s, bi⟩ := p
          have hn1 := Below.new1 (w := wr) (.cells #[.int .i64 a, .int .i64 s, .int .i64 bi] 86)
          have HB1 := Lib.hid (HB.out.trans (hn1.mono HB.out.size))
          have HX1 := Lib.hid (HX.out.below hn1 HX.out.lt)
          have HM1 := Lib.hid (HM.out.below hn1 HM.out.lt)
          have hsz1 := HB.out.size
          have hlx := HX.out.lt
          have hlm := HM.out.lt
          clear hn1 HB HX HM
          by_cases ha : a = 0
          case pos =>
            have hz : s = 0 ∧ bi = 0 := by
              rcases hpo with h | h
              · exact ⟨h.2.1, h.2.2⟩
              · have := h.1; simp only at this; omega
            obtain ⟨rfl, rfl⟩ := hz
            subst ha
            have HTR2 := Lib.hid (show tabM (x.map.drop (j + 1) ++ ptsM (sets.drop (k + 1))) T = R from by
              have := HTR1.out
              unfold tabM at this
              simpa using this)
            clear hpo HTR1
            go_wp2
            go_roundw
            case rel => exact ⟨j + 1, T, by omega, by go_num, HB1, HX1, HM1, HT, HTR2⟩
            case measure => simp [RowKit.intOf]; omega
          case neg =>
            have hg : GoodM ⟨a, s, bi⟩ := by
              rcases hpo with h | h
              · exact absurd h.1 ha
              · exact h
            have hwf : (Lit.int .i64 a).wf = true := wf_i64 (by have := hg.1; simp only at this; omega) (by have := hg.2.1; simp only at this; omega)
            have hq : (a == 0) = false := by simpa using ha
            have hq2 : decide (a = 0) = false := by simpa using ha
            have HTR2 := Lib.hid (show (addE T s a).bind (tabM (x.map.drop (j + 1) ++ ptsM (sets.drop (k + 1)))) = R from by
              have := HTR1.out
              unfold tabM at this
              rw [if_neg ha] at this
              exact this)
            clear hpo HTR1 hg ha
            go_wp2_with fail
            refine (tadd_any (w.heap.size + 1) T s a _ HM1.out HT.out.asc HT.out.ok HT.out.len hwf).mono ?_
            rintro e w3 ⟨rfl, hm3, ht3⟩
            have HB3 := Lib.hid (HB1.out.trans (ht3.below (fun b' hb' _ h => by omega) HB1.out.size))
            have HX3 := Lib.hid (HX1.out.turned ht3 (by omega))
            have HM3 := Lib.hid hm3
            clear hm3 ht3 HB1 HX1 HM1
            cases hadd : addE T s a with
            | none =>
              have HF := Lib.hid (show false = decide (R = some ddt) from by
                have := HTR2.out
                rw [hadd] at this
                rw [← this]
                simp)
              simp only [Option.isSome_none]
              clear hadd
              go_wp2
              go_ret
              exact ⟨ret_boolB HF.out, HB3.out⟩
            | some T' =>
              have HT3 := Lib.hid (show TInv T' from ⟨(asc_addE HT.out.asc HT.out.ok hadd).1, (asc_addE HT.out.asc HT.out.ok hadd).2, addE_len HT.out.asc HT.out.len hadd⟩)
              have HTR3 := Lib.hid (show tabM (x.map.drop (j + 1) ++ ptsM (sets.drop (k + 1))) T' = R from by
                have := HTR2.out
                rw [hadd] at this
                exact this)
              rw [hadd] at HM3
              simp only [Option.isSome_some]
              have HM4 := Lib.hid (show MapE w3 (w.heap.size + 1) T' from HM3.out)
              clear hadd HM3 HTR2
              go_wp2
              go_roundw
              case rel => exact ⟨j + 1, T', by omega, by go_num, HB3, HX3, HM4, HT3, HTR3⟩
              case measure => simp [RowKit.intOf]; omega
        case neg =>
          have HTR1 := Lib.hid (show tabM (ptsM (sets.drop (k + 1))) T = R from by
            have e : x.map.drop j = [] := List.drop_eq_nil_of_le (by rw [H8.out]; omega)
            rw [← HTR.out, e]
            rfl)
          clear HTR
          go_wp2
          go_roundw
          case rel => exact ⟨k + 1, T, by omega, by go_num, HB, HX, HM, HT, HTR1⟩
          case measure => simp [RowKit.intOf]; omega
    case neg =>
      have HRT := Lib.hid (show R = some T from by
        rw [← HTR.out, List.drop_eq_nil_of_le (by rw [HL.out]; omega)]
        rfl)
      have HSD := Lib.hid ((HRR.out.d).below HB.out HRR.out.ld)
      have n2 := HX.out.cell 2 rfl
      have hlx := HX.out.lt
      have HFF := Lib.hid (show decide (T = ddt) = decide (R = some ddt) from by rw [HRT.out]; simp)
      go_wp2_with fail
      refine wp_region_held_drew (S := fun w' => w'.cell? ⟨w.heap.size, 2, none⟩ = some (.slice A1 ddt.length k1)) (by kernel_rfl) n2 (fun hHeld => ?_)
      refine wpAnyH_take (i := 0) (v := ?_) rfl (by kernel_rfl) (by kernel_rfl) (by kernel_rfl) (fun _ _ _ h => h) (Or.inl ⟨by first | kernel_rfl | rfl, ?_⟩) (by assumption) ?_
      rotate_left
      · (intro w' hSw; (try dsimp only at hSw); go_simp; try with_reducible rfl)
      try simp only [Act.put]
      refine wpAnyH_take (i := 2) (v := ?_) rfl (by kernel_rfl) (by kernel_rfl) (by kernel_rfl) (fun _ _ _ h => h) (Or.inl ⟨by first | kernel_rfl | rfl, ?_⟩) (by assumption) ?_
      rotate_left
      · (intro w' hSw; (try dsimp only at hSw); go_simp; try with_reducible rfl)
      try simp only [Act.put]
      refine wpAnyH_take (i := 3) (v := ?_) rfl (by kernel_rfl) (by kernel_rfl) (by kernel_rfl) (fun _ _ _ h => h) (Or.inl ⟨by first | kernel_rfl | rfl, ?_⟩) (by assumption) ?_
      rotate_left
      · (intro w' hSw; (try dsimp only at hSw); go_simp; try with_reducible rfl)
      try simp only [Act.put]
      refine wpAnyH_ready (rs := [1]) (by kernel_rfl) (by simp) ?_
      refine AllReadyH.cons rfl (fun K hK => ?_) AllReadyH.nil
      go_simp
      go_at_call 137
      refine (tlist_any (w.heap.size + 1) T wr.drew (show MapE wr.drew _ _ from HM.out.kept rfl) HT.out.asc HT.out.ok HT.out.len).mono ?_
      rintro e w3 ⟨vo, rfl, how, hb⟩
      have hB3 : Below wr.heap.size wr w3 := (below_drewB wr).trans hb
      go_wp2_with fail
      refine hK.out _ _ ?_ (fun hHeld2 => ?_)
      · rw [hB3.cell hlx]; exact n2
      clear hK K
      try simp only [Act.put]
      refine wpAnyH_ready (rs := [4]) (by kernel_rfl) (by simp) ?_
      refine AllReadyH.cons rfl (fun K hK => ?_) AllReadyH.nil
      go_simp
      go_at_call 136
      refine (equalEn_any _ _ T ddt _ (sl_of_own how) (HSD.out.below hB3 (fun b e => Nat.lt_of_lt_of_le (HRR.out.ld b e) HB.out.size)) (by have := HT.out.len; omega) (by omega)).mono ?_
      rintro e w4 ⟨rfl, q, rfl⟩
      have hB4 : Below wr.heap.size wr (w3.drewN q) := below_drewN hB3 q
      go_wp2_with fail
      refine hK.out _ _ ?_ (fun hHeld3 => ?_)
      · rw [hB4.cell hlx]; exact n2
      clear hK K
      try simp only [Act.put]
      refine wpAnyH_take (i := 5) (v := ?_) rfl (by kernel_rfl) (by kernel_rfl) (by kernel_rfl) (fun _ _ _ h => h) (Or.inl ⟨by first | kernel_rfl | rfl, ?_⟩) (by assumption) ?_
      rotate_left
      · (intro w' hSw; (try dsimp only at hSw); go_simp; try with_reducible rfl)
      try simp only [Act.put]
      refine wpAnyH_done (by kernel_rfl) ?_ _
      go_simp
      clear hHeld hHeld2 hHeld3
      have HB4 := Lib.hid (HB.out.trans (hB4.mono HB.out.size))
      clear hB3 hB4 hb how
      go_wp2
      go_ret
      exact ⟨ret_boolB HFF.out, HB4.out⟩
theorem implCounts_is (vs vd vp vi : Value) (c : CoreM) (r : Bool) (w : World) (h : CoreR w vs vd vp vi c) (hs : CoreShort c) (hset : ∀ x ∈ c.sets, SetOkC x) (hddt : c.ddt.length ≤ 48) (hr : decide (tabM (ptsM c.sets) [] = some c.ddt) = r) :
    Calls Tryz.prog 115 #[cv c vs vd vp vi] w fun e w' => e = .returned (.bool r) ∧ Below w.heap.size w w' := hr ▸ implCounts_any vs vd vp vi c w h hs hset hddt
end Go.Proofs.YtobjgdnmlibofaaGreat

/-
  The document's CoreOk.
-/
set_option maxRecDepth 100000
namespace Go.Proofs.YtobjgdnmlibofaaGreat
open Go.ChangeShapes Go.WideShapes Go.ChangeAt Go.RowKit Go.Proofs.Palim

set_option maxHeartbeats 8000000 in
theorem specCoreOk_any (vs vd vp vi : Value) (c : CoreM) (w : World) (h : CoreR w vs vd vp vi c) (hs : CoreShort c) :
    Calls Tryz.prog 26 #[cv c vs vd vp vi] w fun e w' => e = .returned (.bool (decide (CoreOkM c))) ∧ Below w.heap.size w w' := by
  have hnot : ∀ (x : Bool) (w : World), (Op.unary .not (.bool x)).run Tryz.prog w = .ok (.bool (!x)) w := fun _ _ => rfl
  obtain ⟨ok, HOK⟩ : ∃ ok, Hid (decide (CoreOkM c) = ok) := ⟨_, Lib.hid rfl⟩
  rw [HOK.out]
  have HBAD := Lib.hid (show ¬ CoreOkM c → false = ok from fun h => HOK.out ▸ (decide_eq_false h).symm)
  have HS := Lib.hid hs
  obtain ⟨A0, k0, A1, k1, A2, k2, A3, k3, rfl, rfl, rfl, rfl⟩ := h.forms
  have XC := Lib.hid (kbox_new h 44)
  have B := Lib.hid (Below.new1 (w := w) (.cells #[.int .i64 c.txg, .slice A0 c.sets.length k0, .slice A1 c.ddt.length k1, .slice A2 c.parts.length k2, .bool c.dirty, .slice A3 c.safe.length k3, .int .i64 c.logn] 44))
  clear h hs
  go_enter Tryz.func26, Tryz.ntmps26
  go_upto_region 1 with fail
  obtain ⟨W0, HWE⟩ : ∃ W0, w.alloc (.cells #[.int .i64 c.txg, .slice A0 c.sets.length k0, .slice A1 c.ddt.length k1, .slice A2 c.parts.length k2, .bool c.dirty, .slice A3 c.safe.length k3, .int .i64 c.logn] 44) = W0 := ⟨_, rfl⟩
  rw [HWE] at XC B ⊢
  clear HWE
  have n0 := XC.out.box.cell 0 rfl
  by_cases h1 : 0 ≤ c.txg
  case neg =>
    have HF := Lib.hid (HBAD.out (fun c => h1 (c.1.1)))
    have q : c.txg < 0 := by omega
    go_wp2
    go_ret
    exact ⟨ret_boolB HF.out, B.out⟩
  case pos =>
  have q1 : ¬ c.txg < 0 := by omega
  by_cases h2 : c.txg ≤ 1000000
  case neg =>
    have HF := Lib.hid (HBAD.out (fun c => h2 (c.1.2)))
    have q : c.txg > 1000000 := by omega
    go_wp2
    go_ret
    exact ⟨ret_boolB HF.out, B.out⟩
  case pos =>
  have q2 : ¬ c.txg > 1000000 := by omega
  have n2 := XC.out.box.cell 2 rfl
  by_cases hd : DdtOkM c.ddt
  case neg =>
    have HF := Lib.hid (HBAD.out (fun c => hd (c.2.1)))
    have hor := decide_eq_false hd
    clear hd
    go_wp2_with fail
    refine (SpecDdtOk_is _ c.ddt _ _ XC.out.reads.d XC.out.reads.ld hor).mono ?_
    rintro e w1 ⟨rfl, hb⟩
    have XC' := Lib.hid (XC.out.below hb)
    have B' := Lib.hid (B.out.trans (hb.mono B.out.size))
    clear hb XC B
    have XC := XC'
    have B := B'
    clear XC' B'
    go_wp2
    go_ret
    exact ⟨ret_boolB HF.out, B.out⟩
  case pos =>
  have hor := decide_eq_true hd
  have H_hd := Lib.hid hd
  clear hd
  go_wp2_with fail
  refine (SpecDdtOk_is _ c.ddt _ _ XC.out.reads.d XC.out.reads.ld hor).mono ?_
  rintro e w1 ⟨rfl, hb⟩
  have XC' := Lib.hid (XC.out.below hb)
  have B' := Lib.hid (B.out.trans (hb.mono B.out.size))
  clear hb XC B
  have XC := XC'
  have B := B'
  clear XC' B'
  clear hor n2
  have n3 := XC.out.box.cell 3 rfl
  by_cases h3 : c.parts.length ≤ 8
  case neg =>
    have HF := Lib.hid (HBAD.out (fun c => h3 (c.2.2.1)))
    have q : (c.parts.length : Int) > 8 := by omega
    go_wp2
    go_ret
    exact ⟨ret_boolB HF.out, B.out⟩
  case pos =>
  have q3 : ¬ (c.parts.length : Int) > 8 := by omega
  have n5 := XC.out.box.cell 5 rfl
  by_cases hp : PlacesM c.safe
  case neg =>
    have HF := Lib.hid (HBAD.out (fun c => hp (c.2.2.2.1)))
    have hor := decide_eq_false hp
    clear hp
    go_wp2_with fail
    refine (specPlaces_is _ c.safe _ _ XC.out.reads.i XC.out.reads.li hor).mono ?_
    rintro e w1 ⟨rfl, hb⟩
    have XC' := Lib.hid (XC.out.below hb)
    have B' := Lib.hid (B.out.trans (hb.mono B.out.size))
    clear hb XC B
    have XC := XC'
    have B := B'
    clear XC' B'
    go_wp2
    go_ret
    exact ⟨ret_boolB HF.out, B.out⟩
  case pos =>
  have hor := decide_eq_true hp
  have H_hp := Lib.hid hp
  clear hp
  go_wp2_with fail
  refine (specPlaces_is _ c.safe _ _ XC.out.reads.i XC.out.reads.li hor).mono ?_
  rintro e w1 ⟨rfl, hb⟩
  have XC' := Lib.hid (XC.out.below hb)
  have B' := Lib.hid (B.out.trans (hb.mono B.out.size))
  clear hb XC B
  have XC := XC'
  have B := B'
  clear XC' B'
  clear hor n5
  have n6 := XC.out.box.cell 6 rfl
  by_cases h4 : 0 ≤ c.logn
  case neg =>
    have HF := Lib.hid (HBAD.out (fun c => h4 (c.2.2.2.2.1.1)))
    have q : c.logn < 0 := by omega
    go_wp2
    go_ret
    exact ⟨ret_boolB HF.out, B.out⟩
  case pos =>
  have q4 : ¬ c.logn < 0 := by omega
  by_cases h5 : c.logn ≤ 8
  case neg =>
    have HF := Lib.hid (HBAD.out (fun c => h5 (c.2.2.2.2.1.2)))
    have q : c.logn > 8 := by omega
    go_wp2
    go_ret
    exact ⟨ret_boolB HF.out, B.out⟩
  case pos =>
  have q5 : ¬ c.logn > 8 := by omega
  have HP := Lib.hid (And.intro (And.intro h1 h2) (And.intro h3 (And.intro h4 h5)))
  clear h1 h2 h3 h4 h5
  go_wp2
  clear q1 q2 q3 q4 q5 n0 n3 n6
  go_loopw [3] (fun i wr => ∃ (k : Nat), k ≤ c.sets.length ∧ i = .int .i64 k ∧ Hid (Below w.heap.size w wr) ∧ Hid (KBox wr w.heap.size (.slice A0 c.sets.length k0) (.slice A1 c.ddt.length k1) (.slice A2 c.parts.length k2) (.slice A3 c.safe.length k3) c) ∧ Hid (∀ (j : Nat) (h : j < c.sets.length), j < k → SetOkC c.sets[j])) (fun i _ => c.sets.length - (RowKit.intOf i).toNat)
  case atStart => exact ⟨0, Nat.zero_le _, rfl, B, XC, Lib.hid (fun j _ h => absurd h (Nat.not_lt_zero _))⟩
  case round =>
    clear B XC
    obtain ⟨k, hk, rfl, B, XC, HG⟩ := hrel
    have n1 := XC.out.box.cell 1 rfl
    have hsl := HS.out.s
    by_cases hlt : k < c.sets.length
    case pos =>
      obtain ⟨b, off, c', hvv, _, _, hcell⟩ := XC.out.reads.s.form (by omega)
      injection hvv with e1 e2 e3
      subst e1 e3
      clear e2
      have HRD := Lib.hid (cset_read hcell k hlt)
      have hk1 : (k : Int) < (c.sets.length : Int) := by omega
      have HBS := Lib.hid (show ¬ SetOkC c.sets[k] → false = ok from fun h => HBAD.out (fun c' => h (c'.2.2.2.2.2.1 _ (List.getElem_mem hlt))))
      have HGS := Lib.hid (show SetOkC c.sets[k] → ∀ (j : Nat) (h : j < c.sets.length), j < k + 1 → SetOkC c.sets[j] from fun hg j hj hjk => by
        by_cases e : j = k
        · subst e; exact hg
        · exact HG.out j hj (by omega))
      have HZK := Lib.hid (HS.out.z _ (List.getElem_mem hlt))
      generalize c.sets[k] = x at HRD HBS HGS HZK
      clear HG hcell
      by_cases hg : SetOkC x
      case neg =>
        have HF := Lib.hid (HBS.out hg)
        have hor := decide_eq_false hg
        clear hg HBS HGS
        go_wp2_with (refine wpList_load_cs rfl _ rfl aggSetD rfl (cc x) (cc_length x) HRD.out ?_)
        refine (specSet_is x _ _ HZK.out hor).mono ?_
        rintro e w1 ⟨rfl, hb⟩
        have XC' := Lib.hid (XC.out.below hb)
        have B' := Lib.hid (B.out.trans (hb.mono B.out.size))
        clear hb XC B
        have XC := XC'
        have B := B'
        clear XC' B'
        go_wp2
        go_ret
        exact ⟨ret_boolB HF.out, B.out⟩
      case pos =>
        have HG1 := Lib.hid (HGS.out hg)
        have hor := decide_eq_true hg
        clear hg HBS HGS
        go_wp2_with (refine wpList_load_cs rfl _ rfl aggSetD rfl (cc x) (cc_length x) HRD.out ?_)
        refine (specSet_is x _ _ HZK.out hor).mono ?_
        rintro e w1 ⟨rfl, hb⟩
        have XC' := Lib.hid (XC.out.below hb)
        have B' := Lib.hid (B.out.trans (hb.mono B.out.size))
        clear hb XC B
        have XC := XC'
        have B := B'
        clear XC' B'
        go_wp2
        go_roundw
        case rel => exact ⟨k + 1, by omega, by go_num, B, XC, HG1⟩
        case measure => simp [RowKit.intOf]; omega
    case neg =>
      have HSO := Lib.hid (show ∀ x ∈ c.sets, SetOkC x from fun x hx => by
        obtain ⟨i, hi, rfl⟩ := List.mem_iff_getElem.1 hx
        exact HG.out i hi (by omega))
      have hkn : ¬ (k : Int) < (c.sets.length : Int) := by omega
      clear HG
      go_wp2
      clear n1 hkn hlt
      go_loopw [4] (fun i wr => ∃ (k : Nat), k ≤ c.parts.length ∧ i = .int .i64 k ∧ Hid (Below w.heap.size w wr) ∧ Hid (KBox wr w.heap.size (.slice A0 c.sets.length k0) (.slice A1 c.ddt.length k1) (.slice A2 c.parts.length k2) (.slice A3 c.safe.length k3) c) ∧ Hid (∀ (j : Nat) (h : j < c.parts.length), j < k → GoodM c.parts[j])) (fun i _ => c.parts.length - (RowKit.intOf i).toNat)
      case atStart => exact ⟨0, Nat.zero_le _, rfl, B, XC, Lib.hid (fun j _ h => absurd h (Nat.not_lt_zero _))⟩
      case round =>
        clear B XC
        obtain ⟨k, hk, rfl, B, XC, HG⟩ := hrel
        have n3 := XC.out.box.cell 3 rfl
        have hpl := HS.out.p
        by_cases hlt : k < c.parts.length
        case pos =>
          obtain ⟨b, off, c', hvv, _, _, hcell⟩ := XC.out.reads.p.form (by omega)
          injection hvv with e1 e2 e3
          subst e1 e3
          clear e2
          have hbl : b < wr.heap.size := XC.out.reads.lp b rfl
          obtain ⟨g0, g1, g2⟩ := ptr_read hcell k hlt
          have hk1 : (k : Int) < (c.parts.length : Int) := by omega
          have HBS := Lib.hid (show ¬ GoodM c.parts[k] → false = ok from fun h => HBAD.out (fun c' => h (c'.2.2.2.2.2.2.1 _ (List.getElem_mem hlt))))
          have HGS := Lib.hid (show GoodM c.parts[k] → ∀ (j : Nat) (h : j < c.parts.length), j < k + 1 → GoodM c.parts[j] from fun hg j hj hjk => by
            by_cases e : j = k
            · subst e; exact hg
            · exact HG.out j hj (by omega))
          generalize c.parts[k] = y at g0 g1 g2 HBS HGS
          clear HG hcell
          by_cases hpo : PtrOkM y
          case neg =>
            have HF := Lib.hid (HBS.out (fun c => hpo (Or.inr c)))
            have hor := decide_eq_false hpo
            clear hpo HBS HGS
            go_wp2_with fail
            refine (specPtrOk_is y _ _ hor).mono ?_
            rintro e w1 ⟨rfl, hb⟩
            have XC' := Lib.hid (XC.out.below hb)
            have B' := Lib.hid (B.out.trans (hb.mono B.out.size))
            clear hb XC B
            have XC := XC'
            have B := B'
            clear XC' B'
            go_wp2
            go_ret
            exact ⟨ret_boolB HF.out, B.out⟩
          case pos =>
            have hor := decide_eq_true hpo
            by_cases hy0 : y.at_ = 0
            case pos =>
              have HF := Lib.hid (HBS.out (fun c => by have := c.1; omega))
              have hq1 : (y.at_ == 0) = true := by simpa using hy0
              have hq2 : decide (y.at_ = 0) = true := by simpa using hy0
              clear hpo HBS HGS hy0
              go_wp2_with fail
              refine (specPtrOk_is y _ _ hor).mono ?_
              rintro e w1 ⟨rfl, hb⟩
              have g0' := (hb.cell (p := ⟨b, off + k * 3, none⟩) hbl).trans g0
              have XC' := Lib.hid (XC.out.below hb)
              have B' := Lib.hid (B.out.trans (hb.mono B.out.size))
              clear hb XC B
              have XC := XC'
              have B := B'
              clear XC' B'
              have n3' := XC.out.box.cell 3 rfl
              clear g0 n3
              go_wp2
              go_ret
              exact ⟨ret_boolB HF.out, B.out⟩
            case neg =>
              have HG1 := Lib.hid (HGS.out (by rcases hpo with h | h; exact absurd h.1 hy0; exact h))
              have hq1 : (y.at_ == 0) = false := by simpa using hy0
              have hq2 : decide (y.at_ = 0) = false := by simpa using hy0
              clear hpo HBS HGS hy0
              go_wp2_with fail
              refine (specPtrOk_is y _ _ hor).mono ?_
              rintro e w1 ⟨rfl, hb⟩
              have g0' := (hb.cell (p := ⟨b, off + k * 3, none⟩) hbl).trans g0
              have XC' := Lib.hid (XC.out.below hb)
              have B' := Lib.hid (B.out.trans (hb.mono B.out.size))
              clear hb XC B
              have XC := XC'
              have B := B'
              clear XC' B'
              have n3' := XC.out.box.cell 3 rfl
              clear g0 n3
              go_wp2
              go_roundw
              case rel => exact ⟨k + 1, by omega, by go_num, B, XC, HG1⟩
              case measure => simp [RowKit.intOf]; omega
        case neg =>
          have HPO := Lib.hid (show PartsM c.parts from fun x hx => by
            obtain ⟨i, hi, rfl⟩ := List.mem_iff_getElem.1 hx
            exact HG.out i hi (by omega))
          have hkn : ¬ (k : Int) < (c.parts.length : Int) := by omega
          have HNN := Lib.hid (names_short HS.out.s HS.out.z)
          clear HG
          go_wp2_with (refine wpList_load_box rfl _ rfl aggCore rfl (kcore c (.slice A0 c.sets.length k0) (.slice A1 c.ddt.length k1) (.slice A2 c.parts.length k2) (.slice A3 c.safe.length k3)) rfl XC.out.box ?_)
          refine (names_any _ _ _ _ c _ XC.out.reads HS.out).mono ?_
          rintro e w1 ⟨u, rfl, hown, hb⟩
          have HBR := Lib.hid (show BookR w1 u (namesM c.sets) from ⟨by rw [namesM_length]; exact sl_of_own hown, fun b e => (hown.lt b e).2⟩)
          clear hown
          have XC' := Lib.hid (XC.out.below hb)
          have B' := Lib.hid (B.out.trans (hb.mono B.out.size))
          clear hb XC B
          have XC := XC'
          have B := B'
          clear XC' B'
          go_wp2_with fail
          refine (BookOk_any _ _ _ HBR.out HNN.out).mono ?_
          rintro e w2 ⟨rfl, hb⟩
          have XC' := Lib.hid (XC.out.below hb)
          have B' := Lib.hid (B.out.trans (hb.mono B.out.size))
          clear hb XC B
          have XC := XC'
          have B := B'
          clear XC' B'
          clear HBR
          by_cases hbk : BookOkM (namesM c.sets)
          case neg =>
            rw [decide_eq_false hbk]
            have HF := Lib.hid (HBAD.out (fun c => hbk c.2.2.2.2.2.2.2.1))
            clear hbk
            go_wp2
            go_ret
            exact ⟨ret_boolB HF.out, B.out⟩
          case pos =>
          rw [decide_eq_true hbk]
          have HBK := Lib.hid hbk
          clear hbk
          have n0 := XC.out.box.cell 0 rfl
          have n1 := XC.out.box.cell 1 rfl
          have n2 := XC.out.box.cell 2 rfl
          have n3 := XC.out.box.cell 3 rfl
          have n4 := XC.out.box.cell 4 rfl
          have n5 := XC.out.box.cell 5 rfl
          have n6 := XC.out.box.cell 6 rfl
          go_wp2_with fail
          clear n0 n1 n2 n3 n4 n5 n6
          refine (specCounts_any _ _ _ _ c _ XC.out.reads HS.out H_hd.out).mono ?_
          rintro e w3 ⟨rfl, hb⟩
          have XC' := Lib.hid (XC.out.below hb)
          have B' := Lib.hid (B.out.trans (hb.mono B.out.size))
          clear hb XC B
          have XC := XC'
          have B := B'
          clear XC' B'
          by_cases hct : CountsM c
          case neg =>
            rw [decide_eq_false hct]
            have HF := Lib.hid (HBAD.out (fun c => hct c.2.2.2.2.2.2.2.2.1))
            clear hct
            go_wp2
            go_ret
            exact ⟨ret_boolB HF.out, B.out⟩
          case pos =>
          rw [decide_eq_true hct]
          have HCT := Lib.hid hct
          clear hct
          have n0 := XC.out.box.cell 0 rfl
          have n1 := XC.out.box.cell 1 rfl
          have n2 := XC.out.box.cell 2 rfl
          have n3 := XC.out.box.cell 3 rfl
          have n4 := XC.out.box.cell 4 rfl
          have n5 := XC.out.box.cell 5 rfl
          have n6 := XC.out.box.cell 6 rfl
          go_wp2_with fail
          clear n0 n1 n2 n3 n4 n5 n6
          refine (specSums_any _ _ _ _ c _ XC.out.reads HS.out H_hd.out).mono ?_
          rintro e w4 ⟨rfl, hb⟩
          have XC' := Lib.hid (XC.out.below hb)
          have B' := Lib.hid (B.out.trans (hb.mono B.out.size))
          clear hb XC B
          have XC := XC'
          have B := B'
          clear XC' B'
          have HF := Lib.hid (show decide (SumsM c) = ok from by
            rw [← HOK.out]
            by_cases hsm : SumsM c
            · rw [decide_eq_true hsm, decide_eq_true (show CoreOkM c from ⟨HP.out.1, H_hd.out, HP.out.2.1, H_hp.out, HP.out.2.2, HSO.out, HPO.out, HBK.out, HCT.out, hsm⟩)]
            · rw [decide_eq_false hsm, decide_eq_false (fun c : CoreOkM _ => hsm c.2.2.2.2.2.2.2.2.2)])
          go_wp2
          go_ret
          exact ⟨ret_boolB HF.out, B.out⟩
theorem specCoreOk_is (vs vd vp vi : Value) (c : CoreM) (r : Bool) (w : World) (h : CoreR w vs vd vp vi c) (hs : CoreShort c) (hr : decide (CoreOkM c) = r) :
    Calls Tryz.prog 26 #[cv c vs vd vp vi] w fun e w' => e = .returned (.bool r) ∧ Below w.heap.size w w' := hr ▸ specCoreOk_any vs vd vp vi c w h hs
end Go.Proofs.YtobjgdnmlibofaaGreat

/-
  impl: places, pointers that point, parts.
-/
set_option maxRecDepth 100000
namespace Go.Proofs.YtobjgdnmlibofaaGreat
open Go.ChangeShapes Go.WideShapes Go.ChangeAt Go.RowKit Go.Proofs.Palim

set_option maxHeartbeats 2000000 in
theorem implSafe_any (v : Value) (ls : List Int) (w : World) (h : Sl w 1 v ls.length (ics ls)) (hv : Low w.heap.size v) :
    Calls Tryz.prog 113 #[v] w fun e w' => e = .returned (.bool (decide (PlacesM ls))) ∧ Below w.heap.size w w' := by
  obtain ⟨ok, HOK⟩ : ∃ ok, Hid (decide (PlacesM ls) = ok) := ⟨_, Lib.hid rfl⟩
  rw [HOK.out]
  obtain ⟨n, HL⟩ : ∃ n, Hid (ls.length = n) := ⟨_, Lib.hid rfl⟩
  rw [HL.out] at h
  have hnm := h.le
  unfold maxLen at hnm
  have hfin : ∀ k, GoodP ls k → n ≤ k → true = ok := fun k hk hkn => HOK.out ▸ (decide_eq_true (show PlacesM ls from fun j hj h' => hk j hj (by have := HL.out; omega))).symm
  have HFIN := Lib.hid hfin
  clear hfin
  by_cases hn0 : n = 0
  · subst hn0
    have HF := Lib.hid (HFIN.out 0 (fun j _ h => absurd h (Nat.not_lt_zero _)) (Nat.le_refl _))
    obtain ⟨_, A, c, rfl, _, _, _⟩ := h
    go_enter Tryz.func113, Tryz.ntmps113
    go_wp2
    go_loopw [3, 4, 7] (fun _ _ i wr => i = .int .i64 0 ∧ wr = w) (fun _ _ _ _ => 0)
    case atStart => exact ⟨rfl, rfl⟩
    case round =>
      obtain ⟨rfl, rfl⟩ := hrel
      go_wp2
      go_ret
      exact ⟨ret_boolB HF.out, Below.refl _ _⟩
  obtain ⟨b, off, c, rfl, hnc, hcm, hcell⟩ := h.form (by omega)
  have hbl : b < w.heap.size := hv b rfl
  have HC := Lib.hid hcell
  unfold maxLen at hcm
  clear hcell h hv
  go_enter Tryz.func113, Tryz.ntmps113
  go_wp2
  go_loopw [3, 4, 7] (fun _ _ i wr => ∃ (k : Nat), k ≤ n ∧ i = .int .i64 k ∧ wr = w ∧ Hid (GoodP ls k)) (fun _ _ i _ => n - (RowKit.intOf i).toNat)
  case atStart => exact ⟨0, Nat.zero_le _, rfl, rfl, Lib.hid (fun j _ h => absurd h (Nat.not_lt_zero _))⟩
  case round =>
    obtain ⟨k, hk, rfl, rfl, HG⟩ := hrel
    by_cases hlt : k < n
    case pos =>
      have hl0 : k < ls.length := by rw [HL.out]; exact hlt
      have g0 := HC.out k _ (ics_at ls k hl0)
      have hk1 : (k : Int) < (n : Int) := by omega
      have HBS := Lib.hid (show ¬ (13 ≤ ls[k] ∧ ls[k] < 120) → false = ok from fun h => HOK.out ▸ (decide_eq_false (fun c => h (c k hl0 hl0).1)).symm)
      have HGS := Lib.hid (fun h1 h2 => goodP_succ HG.out hl0 h1 h2)
      by_cases hk0 : k = 0
      case pos =>
        subst hk0
        rw [Nat.add_zero] at g0
        generalize ls[0] = y at g0 HBS HGS
        by_cases hr : 13 ≤ y ∧ y < 120
        case neg =>
          have HF := Lib.hid (HBS.out hr)
          have hr2 : y < 13 ∨ (¬ y < 13 ∧ y ≥ 120) := by omega
          clear hr HBS HGS
          rcases hr2 with h1 | ⟨h1, h2⟩
          all_goals
            go_wp2
            go_ret
            exact ⟨ret_boolB HF.out, Below.refl _ _⟩
        case pos =>
          have HG1 := Lib.hid (HGS.out hr (fun h => absurd h (Nat.lt_irrefl _)))
          obtain ⟨r1, r2⟩ := hr
          have r3 : ¬ y < 13 := by omega
          have r4 : ¬ y ≥ 120 := by omega
          clear HBS HGS
          go_wp2
          go_roundw
          case rel => exact ⟨0 + 1, by omega, by go_num, by first | rfl | trivial, HG1⟩
          case measure => simp [RowKit.intOf]; omega
      case neg =>
        obtain ⟨j, HJ⟩ : ∃ j, Hid (j = k - 1) := ⟨_, Lib.hid rfl⟩
        have hjl : j < ls.length := by rw [HJ.out]; omega
        have p0 := HC.out j _ (ics_at ls j hjl)
        have hwk : IntKind.wrap .i64 ((k : Int) - 1) = (j : Int) := by rw [IntWalk.i64_in _ (by omega), HJ.out]; omega
        have hjn : (j : Int) < (n : Int) := by have := HL.out; omega
        have hjn2 : j < n := by have := HL.out; omega
        have hkp : (k : Int) > 0 := by omega
        have hkd : decide ((k : Int) > 0) = true := decide_eq_true hkp
        have HBA := Lib.hid (show ¬ ls[j] < ls[k] → false = ok from fun h => HOK.out ▸ (decide_eq_false (fun c => by
          have h2 := (c k hl0 hl0).2 (by omega)
          have e : ls[j] = ls[k - 1]'(by omega) := by congr 1 <;> exact HJ.out
          rw [e] at h
          exact h h2)).symm)
        have HGT := Lib.hid (show (13 ≤ ls[k] ∧ ls[k] < 120) → ls[j] < ls[k] → GoodP ls (k + 1) from fun h1 h2 => HGS.out h1 (fun _ => by
          have e : ls[j] = ls[k - 1]'(by omega) := by congr 1 <;> exact HJ.out
          rw [← e]
          exact h2))
        clear HGS
        generalize ls[k] = y at g0 HBS HBA HGT
        generalize ls[j] = p at p0 HBA HGT
        by_cases hr : 13 ≤ y ∧ y < 120
        case neg =>
          have HF := Lib.hid (HBS.out hr)
          have hr2 : y < 13 ∨ (¬ y < 13 ∧ y ≥ 120) := by omega
          clear hr HBS HBA HGT
          rcases hr2 with h1 | ⟨h1, h2⟩
          all_goals
            go_wp2
            go_ret
            exact ⟨ret_boolB HF.out, Below.refl _ _⟩
        case pos =>
          obtain ⟨r1, r2⟩ := hr
          have r3 : ¬ y < 13 := by omega
          have r4 : ¬ y ≥ 120 := by omega
          by_cases hp : p < y
          case neg =>
            have HF := Lib.hid (HBA.out hp)
            have hp2 : p ≥ y := by omega
            clear HBS HBA HGT hp
            go_wp2
            go_ret
            exact ⟨ret_boolB HF.out, Below.refl _ _⟩
          case pos =>
            have HG1 := Lib.hid (HGT.out ⟨r1, r2⟩ hp)
            have hp2 : ¬ p ≥ y := by omega
            clear HBS HBA HGT hp
            go_wp2
            go_roundw
            case rel => exact ⟨k + 1, by omega, by go_num, by first | rfl | trivial, HG1⟩
            case measure => simp [RowKit.intOf]; omega
    case neg =>
      have HF := Lib.hid (HFIN.out k HG.out (by omega))
      go_wp2
      go_ret
      exact ⟨ret_boolB HF.out, Below.refl _ _⟩
theorem implSafe_is (v : Value) (ls : List Int) (r : Bool) (w : World) (h : Sl w 1 v ls.length (ics ls)) (hv : Low w.heap.size v) (hr : decide (PlacesM ls) = r) :
    Calls Tryz.prog 113 #[v] w fun e w' => e = .returned (.bool r) ∧ Below w.heap.size w w' := hr ▸ implSafe_any v ls w h hv

set_option maxHeartbeats 1000000 in
theorem corePoints_any (p : PtrM) (w : World) :
    Calls Tryz.prog 131 #[pv p] w fun e w' => e = .returned (.bool (decide (GoodM p))) ∧ Below w.heap.size w w' := by
  obtain ⟨r, HR⟩ : ∃ r, Hid (decide (GoodM p) = r) := ⟨_, Lib.hid rfl⟩
  rw [HR.out]
  have hB := Below.new1 (w := w) (.cells #[.int .i64 p.at_, .int .i64 p.sum, .int .i64 p.birth] 86)
  have hX := box_new w #[.int .i64 p.at_, .int .i64 p.sum, .int .i64 p.birth] 86
  by_cases hok : PtrOkM p
  case neg =>
    have HF := Lib.hid (show false = r from HR.out ▸ (decide_eq_false (fun c => hok (Or.inr c))).symm)
    have hor := decide_eq_false hok
    clear hok
    go_enter Tryz.func131, Tryz.ntmps131
    go_wp2_with fail
    refine (implPtrOk_is p _ _ hor).mono ?_
    rintro e w1 ⟨rfl, hb⟩
    have HB := Lib.hid (hB.trans (hb.mono hB.size))
    clear hB hX hb
    go_wp2
    go_ret
    exact ⟨ret_boolB HF.out, HB.out⟩
  case pos =>
    have hor := decide_eq_true hok
    obtain ⟨a, s, b⟩ := p
    by_cases hn : a = 0
    case pos =>
      have hz : s = 0 ∧ b = 0 := by
        rcases hok with h | h
        · exact ⟨h.2.1, h.2.2⟩
        · have := h.1; simp only at this; omega
      obtain ⟨rfl, rfl⟩ := hz
      subst hn
      have HF := Lib.hid (show false = r from HR.out ▸ (decide_eq_false (fun c => by have := c.1; simp only at this; omega)).symm)
      clear hok
      go_enter Tryz.func131, Tryz.ntmps131
      go_wp2_with fail
      refine (implPtrOk_is ⟨0, 0, 0⟩ _ _ hor).mono ?_
      rintro e w1 ⟨rfl, hb⟩
      have HB := Lib.hid (hB.trans (hb.mono hB.size))
      obtain ⟨x0, x1, x2⟩ := (hX.below hb hX.lt).three
      clear hB hX hb
      go_wp2
      go_ret
      exact ⟨ret_boolB HF.out, HB.out⟩
    case neg =>
      have HF := Lib.hid (show true = r from HR.out ▸ (decide_eq_true (by rcases hok with h | h; exact absurd h.1 hn; exact h)).symm)
      have hq : (a == 0) = false := by simpa using hn
      have hq2 : decide (a = 0) = false := by simpa using hn
      clear hok
      go_enter Tryz.func131, Tryz.ntmps131
      go_wp2_with fail
      refine (implPtrOk_is ⟨a, s, b⟩ _ _ hor).mono ?_
      rintro e w1 ⟨rfl, hb⟩
      have HB := Lib.hid (hB.trans (hb.mono hB.size))
      obtain ⟨x0, x1, x2⟩ := (hX.below hb hX.lt).three
      clear hB hX hb
      go_wp2
      go_ret
      exact ⟨ret_boolB HF.out, HB.out⟩
theorem corePoints_is (p : PtrM) (r : Bool) (w : World) (hr : decide (GoodM p) = r) :
    Calls Tryz.prog 131 #[pv p] w fun e w' => e = .returned (.bool r) ∧ Below w.heap.size w w' := hr ▸ corePoints_any p w

set_option maxHeartbeats 2000000 in
theorem implParts_any (v : Value) (ls : List PtrM) (w : World) (h : Sl w 3 v ls.length (pcs ls)) (hv : Low w.heap.size v) :
    Calls Tryz.prog 112 #[v] w fun e w' => e = .returned (.bool (decide (ls.length ≤ 8 ∧ PartsM ls))) ∧ Below w.heap.size w w' := by
  have hnot : ∀ (x : Bool) (w : World), (Op.unary .not (.bool x)).run Tryz.prog w = .ok (.bool (!x)) w := fun _ _ => rfl
  obtain ⟨ok, HOK⟩ : ∃ ok, Hid (decide (ls.length ≤ 8 ∧ PartsM ls) = ok) := ⟨_, Lib.hid rfl⟩
  rw [HOK.out]
  obtain ⟨n, HL⟩ : ∃ n, Hid (ls.length = n) := ⟨_, Lib.hid rfl⟩
  rw [HL.out] at h
  have hnm := h.le
  unfold maxLen at hnm
  have HFIN := Lib.hid (show (∀ (j : Nat) (h : j < ls.length), j < n → GoodM ls[j]) → decide (n ≤ 8) = ok from fun hg => by
    rw [← HOK.out, HL.out]
    have hp : PartsM ls := fun p hp => by
      obtain ⟨i, hi, rfl⟩ := List.mem_iff_getElem.1 hp
      exact hg i hi (by have := HL.out; omega)
    by_cases h8 : n ≤ 8 <;> simp [h8, hp])
  by_cases hn0 : n = 0
  · subst hn0
    have HF := Lib.hid (HFIN.out (fun j _ h => absurd h (Nat.not_lt_zero _)))
    obtain ⟨_, A, c, rfl, _, _, _⟩ := h
    go_enter Tryz.func112, Tryz.ntmps112
    go_wp2
    go_loopw [4, 7] (fun _ i wr => i = .int .i64 0 ∧ wr = w) (fun _ _ _ => 0)
    case atStart => exact ⟨rfl, rfl⟩
    case round =>
      obtain ⟨rfl, rfl⟩ := hrel
      go_wp2
      go_ret
      exact ⟨ret_boolB HF.out, Below.refl _ _⟩
  obtain ⟨b, off, c, rfl, hnc, hcm, hcell⟩ := h.form (by omega)
  have hbl : b < w.heap.size := hv b rfl
  have HC := Lib.hid hcell
  unfold maxLen at hcm
  clear hcell h hv
  go_enter Tryz.func112, Tryz.ntmps112
  go_wp2
  go_loopw [4, 7] (fun _ i wr => ∃ (k : Nat), k ≤ n ∧ i = .int .i64 k ∧ Hid (Below w.heap.size w wr) ∧ Hid (∀ (j : Nat) (h : j < ls.length), j < k → GoodM ls[j])) (fun _ i _ => n - (RowKit.intOf i).toNat)
  case atStart => exact ⟨0, Nat.zero_le _, rfl, Lib.hid (Below.refl _ _), Lib.hid (fun j _ h => absurd h (Nat.not_lt_zero _))⟩
  case round =>
    obtain ⟨k, hk, rfl, HB, HG⟩ := hrel
    by_cases hlt : k < n
    case pos =>
      have hl0 : k < ls.length := by rw [HL.out]; exact hlt
      obtain ⟨g0, g1, g2⟩ := ptr_read (fun j u hu => (HB.out.cell hbl).trans (HC.out j u hu)) k hl0
      have hk1 : (k : Int) < (n : Int) := by omega
      have HBS := Lib.hid (show ¬ GoodM ls[k] → false = ok from fun h => HOK.out ▸ (decide_eq_false (fun c => h (c.2 _ (List.getElem_mem hl0)))).symm)
      have HGS := Lib.hid (show GoodM ls[k] → ∀ (j : Nat) (h : j < ls.length), j < k + 1 → GoodM ls[j] from fun hg j hj hjk => by
        by_cases e : j = k
        · subst e; exact hg
        · exact HG.out j hj (by omega))
      generalize ls[k] = y at g0 g1 g2 HBS HGS
      clear HG hl0
      have hB := Below.new1 (w := wr) (.cells #[.int .i64 y.at_, .int .i64 y.sum, .int .i64 y.birth] 86)
      by_cases hg : GoodM y
      case neg =>
        have HF := Lib.hid (HBS.out hg)
        have hor := decide_eq_false hg
        clear hg HBS HGS
        go_wp2_with fail
        refine (corePoints_is y _ _ hor).mono ?_
        rintro e w1 ⟨rfl, hb⟩
        have HB1 := Lib.hid (HB.out.trans ((hB.trans (hb.mono hB.size)).mono HB.out.size))
        clear hB hb HB
        go_wp2
        go_ret
        exact ⟨ret_boolB HF.out, HB1.out⟩
      case pos =>
        have HG1 := Lib.hid (HGS.out hg)
        have hor := decide_eq_true hg
        clear hg HBS HGS
        go_wp2_with fail
        refine (corePoints_is y _ _ hor).mono ?_
        rintro e w1 ⟨rfl, hb⟩
        have HB1 := Lib.hid (HB.out.trans ((hB.trans (hb.mono hB.size)).mono HB.out.size))
        clear hB hb HB
        go_wp2
        go_roundw
        case rel => exact ⟨k + 1, by omega, by go_num, HB1, HG1⟩
        case measure => simp [RowKit.intOf]; omega
    case neg =>
      have HF := Lib.hid (HFIN.out (fun j hj _ => HG.out j hj (by have := HL.out; omega)))
      have hd : decide ((n : Int) ≤ 8) = decide (n ≤ 8) := by
        by_cases h8 : n ≤ 8
        · rw [decide_eq_true h8, decide_eq_true (by omega)]
        · rw [decide_eq_false h8, decide_eq_false (by omega)]
      clear HFIN
      go_wp2
      go_ret
      exact ⟨ret_boolB HF.out, HB.out⟩
theorem implParts_is (v : Value) (ls : List PtrM) (r : Bool) (w : World) (h : Sl w 3 v ls.length (pcs ls)) (hv : Low w.heap.size v) (hr : decide (ls.length ≤ 8 ∧ PartsM ls) = r) :
    Calls Tryz.prog 112 #[v] w fun e w' => e = .returned (.bool r) ∧ Below w.heap.size w w' := hr ▸ implParts_any v ls w h hv
end Go.Proofs.YtobjgdnmlibofaaGreat

/-
  impl's CoreOk.
-/
set_option maxRecDepth 100000
namespace Go.Proofs.YtobjgdnmlibofaaGreat
open Go.ChangeShapes Go.WideShapes Go.ChangeAt Go.RowKit Go.Proofs.Palim

theorem setok_pts {c : CoreM} (h : ∀ x ∈ c.sets, SetOkC x) : ∀ p ∈ ptsM c.sets, PtrOkM p := fun p hp => by
  obtain ⟨x, hx, hpx⟩ := List.mem_flatMap.1 hp
  exact (h x hx).2.2.2.2 p hpx
set_option maxHeartbeats 8000000 in
theorem implCoreOk_any (vs vd vp vi : Value) (c : CoreM) (w : World) (h : CoreR w vs vd vp vi c) (hs : CoreShort c) :
    Calls Tryz.prog 66 #[cv c vs vd vp vi] w fun e w' => e = .returned (.bool (decide (CoreOkM c))) ∧ Below w.heap.size w w' := by
  have hnot : ∀ (x : Bool) (w : World), (Op.unary .not (.bool x)).run Tryz.prog w = .ok (.bool (!x)) w := fun _ _ => rfl
  obtain ⟨ok, HOK⟩ : ∃ ok, Hid (decide (CoreOkM c) = ok) := ⟨_, Lib.hid rfl⟩
  rw [HOK.out]
  have HBAD := Lib.hid (show ¬ CoreOkM c → false = ok from fun h => HOK.out ▸ (decide_eq_false h).symm)
  have HS := Lib.hid hs
  obtain ⟨A0, k0, A1, k1, A2, k2, A3, k3, rfl, rfl, rfl, rfl⟩ := h.forms
  have XC := Lib.hid (kbox_new h 44)
  have B := Lib.hid (Below.new1 (w := w) (.cells #[.int .i64 c.txg, .slice A0 c.sets.length k0, .slice A1 c.ddt.length k1, .slice A2 c.parts.length k2, .bool c.dirty, .slice A3 c.safe.length k3, .int .i64 c.logn] 44))
  clear h hs
  go_enter Tryz.func66, Tryz.ntmps66
  go_upto_region 1 with fail
  obtain ⟨W0, HWE⟩ : ∃ W0, w.alloc (.cells #[.int .i64 c.txg, .slice A0 c.sets.length k0, .slice A1 c.ddt.length k1, .slice A2 c.parts.length k2, .bool c.dirty, .slice A3 c.safe.length k3, .int .i64 c.logn] 44) = W0 := ⟨_, rfl⟩
  rw [HWE] at XC B ⊢
  clear HWE
  have n0 := XC.out.box.cell 0 rfl
  by_cases h1 : 0 ≤ c.txg
  case neg =>
    have HF := Lib.hid (HBAD.out (fun c => h1 (c.1.1)))
    have q : ¬ c.txg ≥ 0 := h1
    go_wp2
    go_ret
    exact ⟨ret_boolB HF.out, B.out⟩
  case pos =>
  have q1 : c.txg ≥ 0 := h1
  by_cases h2 : c.txg ≤ 1000000
  case neg =>
    have HF := Lib.hid (HBAD.out (fun c => h2 (c.1.2)))
    go_wp2
    go_ret
    exact ⟨ret_boolB HF.out, B.out⟩
  case pos =>
  have n2 := XC.out.box.cell 2 rfl
  by_cases hd : DdtOkM c.ddt
  case neg =>
    have HF := Lib.hid (HBAD.out (fun c => hd (c.2.1)))
    have hor := decide_eq_false hd
    clear hd
    go_wp2_with fail
    refine (ImplDdtOk_is _ c.ddt _ _ XC.out.reads.d XC.out.reads.ld hor).mono ?_
    rintro e w1 ⟨rfl, hb⟩
    have XC' := Lib.hid (XC.out.below hb)
    have B' := Lib.hid (B.out.trans (hb.mono B.out.size))
    clear hb XC B
    have XC := XC'
    have B := B'
    clear XC' B'
    go_wp2
    go_ret
    exact ⟨ret_boolB HF.out, B.out⟩
  case pos =>
  have hor := decide_eq_true hd
  have H_hd := Lib.hid hd
  clear hd
  go_wp2_with fail
  refine (ImplDdtOk_is _ c.ddt _ _ XC.out.reads.d XC.out.reads.ld hor).mono ?_
  rintro e w1 ⟨rfl, hb⟩
  have XC' := Lib.hid (XC.out.below hb)
  have B' := Lib.hid (B.out.trans (hb.mono B.out.size))
  clear hb XC B
  have XC := XC'
  have B := B'
  clear XC' B'
  clear hor n2
  have n3 := XC.out.box.cell 3 rfl
  by_cases hpt : (c.parts.length ≤ 8 ∧ PartsM c.parts)
  case neg =>
    have HF := Lib.hid (HBAD.out (fun c => hpt (⟨c.2.2.1, c.2.2.2.2.2.2.1⟩)))
    have hor := decide_eq_false hpt
    clear hpt
    go_wp2_with fail
    refine (implParts_is _ c.parts _ _ XC.out.reads.p XC.out.reads.lp hor).mono ?_
    rintro e w1 ⟨rfl, hb⟩
    have XC' := Lib.hid (XC.out.below hb)
    have B' := Lib.hid (B.out.trans (hb.mono B.out.size))
    clear hb XC B
    have XC := XC'
    have B := B'
    clear XC' B'
    go_wp2
    go_ret
    exact ⟨ret_boolB HF.out, B.out⟩
  case pos =>
  have hor := decide_eq_true hpt
  have H_hpt := Lib.hid hpt
  clear hpt
  go_wp2_with fail
  refine (implParts_is _ c.parts _ _ XC.out.reads.p XC.out.reads.lp hor).mono ?_
  rintro e w1 ⟨rfl, hb⟩
  have XC' := Lib.hid (XC.out.below hb)
  have B' := Lib.hid (B.out.trans (hb.mono B.out.size))
  clear hb XC B
  have XC := XC'
  have B := B'
  clear XC' B'
  clear hor n3
  have n5 := XC.out.box.cell 5 rfl
  by_cases hp : PlacesM c.safe
  case neg =>
    have HF := Lib.hid (HBAD.out (fun c => hp (c.2.2.2.1)))
    have hor := decide_eq_false hp
    clear hp
    go_wp2_with fail
    refine (implSafe_is _ c.safe _ _ XC.out.reads.i XC.out.reads.li hor).mono ?_
    rintro e w1 ⟨rfl, hb⟩
    have XC' := Lib.hid (XC.out.below hb)
    have B' := Lib.hid (B.out.trans (hb.mono B.out.size))
    clear hb XC B
    have XC := XC'
    have B := B'
    clear XC' B'
    go_wp2
    go_ret
    exact ⟨ret_boolB HF.out, B.out⟩
  case pos =>
  have hor := decide_eq_true hp
  have H_hp := Lib.hid hp
  clear hp
  go_wp2_with fail
  refine (implSafe_is _ c.safe _ _ XC.out.reads.i XC.out.reads.li hor).mono ?_
  rintro e w1 ⟨rfl, hb⟩
  have XC' := Lib.hid (XC.out.below hb)
  have B' := Lib.hid (B.out.trans (hb.mono B.out.size))
  clear hb XC B
  have XC := XC'
  have B := B'
  clear XC' B'
  clear hor n5
  have n6 := XC.out.box.cell 6 rfl
  by_cases h4 : 0 ≤ c.logn
  case neg =>
    have HF := Lib.hid (HBAD.out (fun c => h4 (c.2.2.2.2.1.1)))
    have q : ¬ c.logn ≥ 0 := h4
    go_wp2
    go_ret
    exact ⟨ret_boolB HF.out, B.out⟩
  case pos =>
  have q4 : c.logn ≥ 0 := h4
  by_cases h5 : c.logn ≤ 8
  case neg =>
    have HF := Lib.hid (HBAD.out (fun c => h5 (c.2.2.2.2.1.2)))
    go_wp2
    go_ret
    exact ⟨ret_boolB HF.out, B.out⟩
  case pos =>
  have n1 := XC.out.box.cell 1 rfl
  by_cases hst : ((∀ x ∈ c.sets, SetOkC x) ∧ BookOkM (namesM c.sets))
  case neg =>
    have HF := Lib.hid (HBAD.out (fun c => hst (⟨c.2.2.2.2.2.1, c.2.2.2.2.2.2.2.1⟩)))
    have hor := decide_eq_false hst
    clear hst
    go_wp2_with fail
    refine (implSets_is _ c.sets _ _ XC.out.reads.s XC.out.reads.ls HS.out.s HS.out.z hor).mono ?_
    rintro e w1 ⟨rfl, hb⟩
    have XC' := Lib.hid (XC.out.below hb)
    have B' := Lib.hid (B.out.trans (hb.mono B.out.size))
    clear hb XC B
    have XC := XC'
    have B := B'
    clear XC' B'
    go_wp2
    go_ret
    exact ⟨ret_boolB HF.out, B.out⟩
  case pos =>
  have hor := decide_eq_true hst
  have H_hst := Lib.hid hst
  clear hst
  go_wp2_with fail
  refine (implSets_is _ c.sets _ _ XC.out.reads.s XC.out.reads.ls HS.out.s HS.out.z hor).mono ?_
  rintro e w1 ⟨rfl, hb⟩
  have XC' := Lib.hid (XC.out.below hb)
  have B' := Lib.hid (B.out.trans (hb.mono B.out.size))
  clear hb XC B
  have XC := XC'
  have B := B'
  clear XC' B'
  clear hor n1
  have HF := Lib.hid (show decide (tabM (ptsM c.sets) [] = some c.ddt) = ok from by
    rw [← HOK.out]
    have hti := tab_iff H_hd.out (setok_pts H_hst.out.1)
    by_cases ht : tabM (ptsM c.sets) [] = some c.ddt
    · obtain ⟨t1, t2⟩ := hti.1 ht
      rw [decide_eq_true ht, decide_eq_true (show CoreOkM c from ⟨⟨h1, h2⟩, H_hd.out, H_hpt.out.1, H_hp.out, ⟨h4, h5⟩, H_hst.out.1, H_hpt.out.2, H_hst.out.2, t1, t2⟩)]
    · rw [decide_eq_false ht, decide_eq_false (fun c : CoreOkM _ => ht (hti.2 ⟨c.2.2.2.2.2.2.2.2.1, c.2.2.2.2.2.2.2.2.2⟩))])
  have n0 := XC.out.box.cell 0 rfl
  have n1 := XC.out.box.cell 1 rfl
  have n2 := XC.out.box.cell 2 rfl
  have n3 := XC.out.box.cell 3 rfl
  have n4 := XC.out.box.cell 4 rfl
  have n5 := XC.out.box.cell 5 rfl
  have n6 := XC.out.box.cell 6 rfl
  go_wp2_with fail
  clear n0 n1 n2 n3 n4 n5 n6
  refine (implCounts_any _ _ _ _ c _ XC.out.reads HS.out H_hst.out.1 H_hd.out.1).mono ?_
  rintro e w1 ⟨rfl, hb⟩
  have XC' := Lib.hid (XC.out.below hb)
  have B' := Lib.hid (B.out.trans (hb.mono B.out.size))
  clear hb XC B
  have XC := XC'
  have B := B'
  clear XC' B'
  go_wp2
  go_ret
  exact ⟨ret_boolB HF.out, B.out⟩
theorem implCoreOk_is (vs vd vp vi : Value) (c : CoreM) (r : Bool) (w : World) (h : CoreR w vs vd vp vi c) (hs : CoreShort c) (hr : decide (CoreOkM c) = r) :
    Calls Tryz.prog 66 #[cv c vs vd vp vi] w fun e w' => e = .returned (.bool r) ∧ Below w.heap.size w w' := hr ▸ implCoreOk_any vs vd vp vi c w h hs
end Go.Proofs.YtobjgdnmlibofaaGreat
