/-
  impl's DiskOk: which disks are valid.
-/
import Derived.Test.YtobjgdnmlibofaaGreatImHas
set_option maxRecDepth 100000
namespace Go.Proofs.YtobjgdnmlibofaaGreat
open Go.ChangeShapes Go.WideShapes Go.ChangeAt Go.RowKit Go.Proofs.Palim

theorem idx2_0 (A0 A1 : Option Addr) (n0 c0 n1 c1 : Nat) (w : World) : (Instr.index 23 (.agg #[.slice A0 n0 c0, .slice A1 n1 c1]) (.int .i64 0)).run Tryz.prog w = .ok (.slice A0 n0 c0) w := by kernel_rfl
theorem idx2_1 (A0 A1 : Option Addr) (n0 c0 n1 c1 : Nat) (w : World) : (Instr.index 23 (.agg #[.slice A0 n0 c0, .slice A1 n1 c1]) (.int .i64 1)).run Tryz.prog w = .ok (.slice A1 n1 c1) w := by kernel_rfl

set_option maxHeartbeats 2000000 in
theorem ImplDiskOk_any (d : DiskM) (v0 v1 vl : Value) (w : World) (h : DiskR w v0 v1 vl d) (hs : DiskShort d) :
    Calls Tryz.prog 65 #[.agg #[v0, v1, vl]] w fun e w' => e = .returned (.bool (decide (DiskOkM d))) ∧ Below w.heap.size w w' := by
  obtain ⟨_, A0, c0, rfl, _⟩ := h.r0
  obtain ⟨_, A1, c1, rfl, _⟩ := h.r1
  obtain ⟨_, Al, cl, rfl, _⟩ := h.rl
  have hn0 := hs.n0
  have hn1 := hs.n1
  have hnl := hs.nl
  have HD := Lib.hid h
  have HS := Lib.hid hs
  clear h hs
  obtain ⟨n0, H0⟩ : ∃ n, Hid (d.s0.length = n) := ⟨_, Lib.hid rfl⟩
  obtain ⟨n1, H1⟩ : ∃ n, Hid (d.s1.length = n) := ⟨_, Lib.hid rfl⟩
  obtain ⟨nl, HL⟩ : ∃ n, Hid (d.late.length = n) := ⟨_, Lib.hid rfl⟩
  rw [H0.out] at hn0 HD ⊢
  rw [H1.out] at hn1 HD ⊢
  rw [HL.out] at hnl HD ⊢
  by_cases hok : 1 ≤ n0 ∧ n0 ≤ 120 ∧ n1 = n0 ∧ nl ≤ 600
  · obtain ⟨k1, k2, k3, k4⟩ := hok
    subst k3
    obtain ⟨b0, o0, c0', e0, hc0, hm0, hcell0⟩ := HD.out.r0.form (by have := H0.out; omega)
    obtain ⟨b1, o1, c1', e1, hc1, hm1, hcell1⟩ := HD.out.r1.form (by have := H1.out; omega)
    injection e0 with e0 e0' e0''
    injection e1 with e1 e1' e1''
    subst e0 e1 e0'' e1''
    have HC0 := Lib.hid hcell0
    have HC1 := Lib.hid hcell1
    rw [H0.out] at hc0
    rw [H1.out] at hc1
    have hbl0 : b0 < w.heap.size := HD.out.l0 b0 rfl
    have hbl1 : b1 < w.heap.size := HD.out.l1 b1 rfl
    unfold maxLen at hm0 hm1
    clear hcell0 hcell1 e0' e1'
    go_enter Tryz.func65, Tryz.ntmps65
    go_wp2
    go_loopw [36] (fun i wr => ∃ k : Nat, k ≤ 2 ∧ i = .int .i64 (k : Int) ∧ wr = w.alloc (.cells #[.slice (some ⟨b0, o0, none⟩) n1 c0, .slice (some ⟨b1, o1, none⟩) n1 c1, .slice Al nl cl] 39) ∧ Hid (1 ≤ k → ∀ (j : Nat) (h : j < d.s0.length), d.s0[j].size ≤ 420) ∧ Hid (2 ≤ k → ∀ (j : Nat) (h : j < d.s1.length), d.s1[j].size ≤ 420)) (fun i _ => 2 - (intOf i).toNat)
    case atStart => exact ⟨0, Nat.zero_le _, rfl, rfl, Lib.hid (fun h => absurd h (by omega)), Lib.hid (fun h => absurd h (by omega))⟩
    case round =>
      obtain ⟨k, hk, rfl, rfl, HA, HB⟩ := hrel
      have hk3 : k = 0 ∨ k = 1 ∨ k = 2 := by omega
      clear hk
      rcases hk3 with rfl | rfl | rfl
      · clear HA HB
        have hq0 : ∀ w : World, (Instr.index 23 (.agg #[.slice (some ⟨b0, o0, none⟩) n1 c0, .slice (some ⟨b1, o1, none⟩) n1 c1]) (.int .i64 0)).run Tryz.prog w = .ok (.slice (some ⟨b0, o0, none⟩) n1 c0) w := idx2_0 _ _ _ _ _ _
        go_wp2
        go_loopw [41] (fun j wr => ∃ m : Nat, m ≤ n1 ∧ j = .int .i64 (m : Int) ∧ wr = w.alloc (.cells #[.slice (some ⟨b0, o0, none⟩) n1 c0, .slice (some ⟨b1, o1, none⟩) n1 c1, .slice Al nl cl] 39) ∧ Hid (∀ (j : Nat) (h : j < d.s0.length), j < m → d.s0[j].size ≤ 420)) (fun j _ => n1 - (intOf j).toNat)
        case atStart => exact ⟨0, Nat.zero_le _, rfl, rfl, Lib.hid (fun j _ h => absurd h (Nat.not_lt_zero _))⟩
        case round =>
          obtain ⟨m, hm, rfl, rfl, HK⟩ := hrel
          by_cases hlt : m < n1
          · have hl : m < d.s0.length := by rw [H0.out]; exact hlt
            have g0 := HC0.out m _ (scs_at d.s0 m hl)
            have z0 := HS.out.z0 _ (List.getElem_mem hl)
            have HK1 := Lib.hid (show d.s0[m].size ≤ 420 → ∀ (j : Nat) (h : j < d.s0.length), j < m + 1 → d.s0[j].size ≤ 420 from fun hh j h hj => by
              rcases Nat.lt_succ_iff_lt_or_eq.1 hj with h2 | rfl
              · exact HK.out j h h2
              · exact hh)
            have HN := Lib.hid (show ¬ d.s0[m].size ≤ 420 → ¬ DiskOkM d from fun hh q => hh (q.2.2.2.2.1 _ (List.getElem_mem hl)))
            generalize d.s0[m] = x0 at g0 z0 HK1 HN
            clear hl
            by_cases hx : x0.size ≤ 420
            · have HK2 := Lib.hid (HK1.out hx)
              clear HK HK1 HN
              go_wp2
              go_roundw
              case rel => exact ⟨m + 1, by omega, by go_num, by first | trivial | rfl, HK2⟩
              case measure => simp [intOf]; omega
            · have HF := Lib.hid (decide_eq_false (HN.out hx)).symm
              have hx0 : 420 < x0.size := by omega
              clear HK HK1 HN hx
              go_wp2
              go_ret
              exact ⟨ret_bool HF.out, (Below.refl _ _).alloc (Nat.le_refl _) _⟩
          · have HE := Lib.hid (show ∀ (j : Nat) (h : j < d.s0.length), d.s0[j].size ≤ 420 from fun j h => HK.out j h (by have := H0.out; omega))
            clear HK
            go_wp2
            go_roundw
            case rel => exact ⟨1, by omega, by go_num, by first | trivial | rfl, Lib.hid (fun _ => HE.out), Lib.hid (fun h => absurd h (by omega))⟩
            case measure => simp [intOf]
      · have HE0 := Lib.hid (HA.out (Nat.le_refl _))
        clear HA HB
        have hq1 : ∀ w : World, (Instr.index 23 (.agg #[.slice (some ⟨b0, o0, none⟩) n1 c0, .slice (some ⟨b1, o1, none⟩) n1 c1]) (.int .i64 1)).run Tryz.prog w = .ok (.slice (some ⟨b1, o1, none⟩) n1 c1) w := idx2_1 _ _ _ _ _ _
        go_wp2
        go_loopw [41] (fun j wr => ∃ m : Nat, m ≤ n1 ∧ j = .int .i64 (m : Int) ∧ wr = w.alloc (.cells #[.slice (some ⟨b0, o0, none⟩) n1 c0, .slice (some ⟨b1, o1, none⟩) n1 c1, .slice Al nl cl] 39) ∧ Hid (∀ (j : Nat) (h : j < d.s1.length), j < m → d.s1[j].size ≤ 420)) (fun j _ => n1 - (intOf j).toNat)
        case atStart => exact ⟨0, Nat.zero_le _, rfl, rfl, Lib.hid (fun j _ h => absurd h (Nat.not_lt_zero _))⟩
        case round =>
          obtain ⟨m, hm, rfl, rfl, HK⟩ := hrel
          by_cases hlt : m < n1
          · have hl : m < d.s1.length := by rw [H1.out]; exact hlt
            have g0 := HC1.out m _ (scs_at d.s1 m hl)
            have z0 := HS.out.z1 _ (List.getElem_mem hl)
            have HK1 := Lib.hid (show d.s1[m].size ≤ 420 → ∀ (j : Nat) (h : j < d.s1.length), j < m + 1 → d.s1[j].size ≤ 420 from fun hh j h hj => by
              rcases Nat.lt_succ_iff_lt_or_eq.1 hj with h2 | rfl
              · exact HK.out j h h2
              · exact hh)
            have HN := Lib.hid (show ¬ d.s1[m].size ≤ 420 → ¬ DiskOkM d from fun hh q => hh (q.2.2.2.2.2.1 _ (List.getElem_mem hl)))
            generalize d.s1[m] = x0 at g0 z0 HK1 HN
            clear hl
            by_cases hx : x0.size ≤ 420
            · have HK2 := Lib.hid (HK1.out hx)
              clear HK HK1 HN
              go_wp2
              go_roundw
              case rel => exact ⟨m + 1, by omega, by go_num, by first | trivial | rfl, HK2⟩
              case measure => simp [intOf]; omega
            · have HF := Lib.hid (decide_eq_false (HN.out hx)).symm
              have hx0 : 420 < x0.size := by omega
              clear HK HK1 HN hx
              go_wp2
              go_ret
              exact ⟨ret_bool HF.out, (Below.refl _ _).alloc (Nat.le_refl _) _⟩
          · have HE := Lib.hid (show ∀ (j : Nat) (h : j < d.s1.length), d.s1[j].size ≤ 420 from fun j h => HK.out j h (by have := H1.out; omega))
            clear HK
            go_wp2
            go_roundw
            case rel => exact ⟨2, by omega, by go_num, by first | trivial | rfl, Lib.hid (fun _ => HE0.out), Lib.hid (fun _ => HE.out)⟩
            case measure => simp [intOf]
      · have HE0 := Lib.hid (HA.out (by omega))
        have HE1 := Lib.hid (HB.out (by omega))
        clear HA HB
        go_wp2
        go_loopw [53] (fun i wr => ∃ k : Nat, k ≤ nl ∧ i = .int .i64 (k : Int) ∧ Hid (Box wr w.heap.size [.slice (some ⟨b0, o0, none⟩) n1 c0, .slice (some ⟨b1, o1, none⟩) n1 c1, .slice Al nl cl]) ∧ w.heap.size + 1 ≤ wr.heap.size ∧ Hid (Below w.heap.size w wr) ∧ Hid (∀ (j : Nat) (h : j < d.late.length), j < k → There n1 d.late[j].side d.late[j].at_ d.late[j].text.size)) (fun i _ => nl - (intOf i).toNat)
        case atStart => exact ⟨0, Nat.zero_le _, rfl, Lib.hid (box_new _ _ _), by simp, Lib.hid ((Below.refl _ _).alloc (Nat.le_refl _) _), Lib.hid (fun j _ h => absurd h (Nat.not_lt_zero _))⟩
        case round =>
          obtain ⟨k, hk, rfl, HX, hsz, HB, HK⟩ := hrel
          obtain ⟨x0, x1, x2⟩ := HX.out.three
          by_cases hlt : k < nl
          · have hll : k < d.late.length := by rw [HL.out]; exact hlt
            obtain ⟨bl, ol, cl', el, hcl, hml, hcell⟩ := HD.out.rl.form (by have := HL.out; omega)
            injection el with el el' el''
            subst el el''
            rw [HL.out] at hcl
            unfold maxLen at hml
            have hbll : bl < w.heap.size := HD.out.ll bl rfl
            have hrd := late_read (fun j u hu => (HB.out.cell hbll).trans (hcell j u hu)) k hll
            have hz : d.late[k].text.size ≤ maxLen := by have := HS.out.zl _ (List.getElem_mem hll); unfold maxLen; omega
            have HN := Lib.hid (show ¬ There n1 d.late[k].side d.late[k].at_ d.late[k].text.size → ¬ DiskOkM d from fun hh q => hh (by have := q.2.2.2.2.2.2 _ (List.getElem_mem hll); rwa [H0.out] at this))
            have HK1 := Lib.hid (show There n1 d.late[k].side d.late[k].at_ d.late[k].text.size → ∀ (j : Nat) (h : j < d.late.length), j < k + 1 → There n1 d.late[j].side d.late[j].at_ d.late[j].text.size from fun hh j h0 hj => by
              rcases Nat.lt_succ_iff_lt_or_eq.1 hj with h | rfl
              · exact HK.out j h0 h
              · exact hh)
            generalize d.late[k] = x at hrd HN HK1 hz
            obtain ⟨h1, h2, h3⟩ := hrd
            have hj1 : (k : Int) < (nl : Int) := by omega
            have XL := Lib.hid (box_new wr #[.int .i64 x.side, .int .i64 x.at_, .string x.text] 81)
            have hnw := Lib.hid (Below.new (w := wr) (.cells #[.int .i64 x.side, .int .i64 x.at_, .string x.text] 81))
            have HX1 := Lib.hid (HX.out.alloc (.cells #[.int .i64 x.side, .int .i64 x.at_, .string x.text] 81))
            have HB1 := Lib.hid (HB.out.trans (hnw.out.mono HB.out.size))
            have HZ := Lib.hid hz
            obtain ⟨y0, y1, y2⟩ := HX1.out.three
            clear hcell el' hll hz HB x0 x1 x2
            by_cases hth : There n1 x.side x.at_ x.text.size
            · have HK2 := Lib.hid (HK1.out hth)
              replace hth := Lib.hid (decide_eq_true hth)
              clear HK HK1 HN
              go_wp2_with fail
              refine (takes_is _ _ _ n1 c0 c1 x.side x.at_ x.text _ HZ.out true hth.out).mono ?_
              rintro e w2 ⟨rfl, hb2⟩
              have HB2 := Lib.hid (HB1.out.trans (hb2.mono HB1.out.size))
              have HX2 := Lib.hid (HX1.out.below hb2 (by simp; omega))
              have hsz2 : w.heap.size + 1 ≤ w2.heap.size := Nat.le_trans (Nat.le_trans hsz hnw.out.size) hb2.size
              clear hb2 h1 h2 h3 HX y0 y1 y2 hth HZ HX1 HB1 hnw XL
              go_wp2
              go_roundw
              case rel =>
                refine ⟨_, _, _, _, _, _, _, _, _, _, _, _, _, _, _, _, ?_, rfl⟩
                exact ⟨k + 1, by omega, by go_num, HX2, hsz2, HB2, HK2⟩
              case measure => simp [intOf]; omega
            · have HF := Lib.hid (decide_eq_false (HN.out hth)).symm
              replace hth := Lib.hid (decide_eq_false hth)
              clear HK HK1 HN
              go_wp2_with fail
              refine (takes_is _ _ _ n1 c0 c1 x.side x.at_ x.text _ HZ.out false hth.out).mono ?_
              rintro e w2 ⟨rfl, hb2⟩
              have HB2 := Lib.hid (HB1.out.trans (hb2.mono HB1.out.size))
              clear hb2 h1 h2 h3 HX y0 y1 y2 hth HZ HX1 HB1 hnw XL
              go_wp2
              go_ret
              exact ⟨ret_bool HF.out, HB2.out⟩
          · have HT := Lib.hid (show DiskOkM d from ⟨by have := H0.out; omega, by have := H0.out; omega, by have := H0.out; have := H1.out; omega, by have := HL.out; omega,
              fun s hs => by
                obtain ⟨i, hi, rfl⟩ := List.mem_iff_getElem.1 hs
                exact HE0.out i hi,
              fun s hs => by
                obtain ⟨i, hi, rfl⟩ := List.mem_iff_getElem.1 hs
                exact HE1.out i hi,
              fun s hs => by
                obtain ⟨i, hi, rfl⟩ := List.mem_iff_getElem.1 hs
                rw [H0.out]
                exact HK.out i hi (by have := HL.out; omega)⟩)
            clear HK
            go_wp2
            go_ret
            exact ⟨ret_bool (decide_eq_true HT.out).symm, HB.out⟩
  · have HN := Lib.hid (show ¬ DiskOkM d from fun q => hok ⟨by have := q.1; have := H0.out; omega, by have := q.2.1; have := H0.out; omega, by have := q.2.2.1; have := H0.out; have := H1.out; omega, by have := q.2.2.2.1; have := HL.out; omega⟩)
    rw [decide_eq_false HN.out]
    have ho : n0 < 1 ∨ (1 ≤ n0 ∧ 120 < n0) ∨ (1 ≤ n0 ∧ n0 ≤ 120 ∧ n1 ≠ n0) ∨ (1 ≤ n0 ∧ n0 ≤ 120 ∧ n1 = n0 ∧ 600 < nl) := by omega
    clear hok
    rcases ho with k1 | ⟨k1, k2⟩ | ⟨k1, k2, k3⟩ | ⟨k1, k2, k3, k4⟩
    all_goals
      go_enter Tryz.func65, Tryz.ntmps65
      go_wp2
      go_ret
      exact ⟨rfl, (Below.refl _ _).alloc (Nat.le_refl _) _⟩
theorem ImOk_is (v0 v1 vl : Value) (d : DiskM) (w : World) (h : DiskR w v0 v1 vl d) (hs : DiskShort d) (r : Bool) (hr : decide (DiskOkM d) = r) :
    Calls Tryz.prog 65 #[.agg #[v0, v1, vl]] w fun e w' => e = .returned (.bool r) ∧ Below w.heap.size w w' := hr ▸ ImplDiskOk_any d v0 v1 vl w h hs
end Go.Proofs.YtobjgdnmlibofaaGreat
