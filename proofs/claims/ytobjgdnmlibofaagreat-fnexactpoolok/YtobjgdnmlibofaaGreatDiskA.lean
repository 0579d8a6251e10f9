/-
  Texts joined into one.
-/
import Derived.Test.YtobjgdnmlibofaaGreatData
import Derived.Test.YtobjgdnmlibofaaGreatFresh
import Derived.Lib.SliceRun
import Derived.Test.YtobjgdnmlibofaaGreatDiskOk

/-
  impl's has and diskTakes: whether a sector is there, and whether a text fits into it.
-/
set_option maxRecDepth 100000
namespace Go.Proofs.YtobjgdnmlibofaaGreat
open Go.ChangeShapes Go.WideShapes Go.ChangeAt Go.RowKit Go.Proofs.Palim

/-- There is such a sector. -/
def Has (n0 n1 : Nat) (side at_ : Int) : Prop := (side = 0 ∧ 0 ≤ at_ ∧ at_ < n0) ∨ (side = 1 ∧ 0 ≤ at_ ∧ at_ < n1)
instance (n0 n1 : Nat) (side at_ : Int) : Decidable (Has n0 n1 side at_) := by unfold Has; infer_instance
theorem has_there (n : Nat) (side at_ : Int) (size : Nat) : (Has n n side at_ ∧ size ≤ 420) ↔ There n side at_ size := by unfold Has There; omega

set_option maxHeartbeats 400000 in
theorem has_any (A0 A1 : Option Addr) (n0 c0 n1 c1 : Nat) (side at_ : Int) (w : World) :
    Calls Tryz.prog 92 #[.agg #[.slice A0 n0 c0, .slice A1 n1 c1], .int .i64 side, .int .i64 at_] w fun e w' => e = .returned (.bool (decide (Has n0 n1 side at_))) ∧ Below w.heap.size w w' := by
  have hs : side < 0 ∨ side = 0 ∨ side = 1 ∨ 1 < side := by omega
  rcases hs with hs | rfl | rfl | hs
  all_goals
    go_enter Tryz.func92, Tryz.ntmps92
    go_wp2
    all_goals
      go_ret
      exact ⟨ret_bool (dec_eq (by simp only [decide_eq_true_eq, Bool.false_eq_true, false_iff]; unfold Has; omega)), (Below.refl _ _).alloc (Nat.le_refl _) _⟩
theorem has_is (A0 A1 : Option Addr) (n0 c0 n1 c1 : Nat) (side at_ : Int) (w : World) (r : Bool) (hr : decide (Has n0 n1 side at_) = r) :
    Calls Tryz.prog 92 #[.agg #[.slice A0 n0 c0, .slice A1 n1 c1], .int .i64 side, .int .i64 at_] w fun e w' => e = .returned (.bool r) ∧ Below w.heap.size w w' := hr ▸ has_any A0 A1 n0 c0 n1 c1 side at_ w

set_option maxHeartbeats 400000 in
theorem takes_any (A0 A1 : Option Addr) (vl : Value) (n0 c0 n1 c1 : Nat) (side at_ : Int) (s : ByteArray) (w : World) (hz : s.size ≤ maxLen) :
    Calls Tryz.prog 110 #[.agg #[.slice A0 n0 c0, .slice A1 n1 c1, vl], .int .i64 side, .int .i64 at_, .string s] w fun e w' => e = .returned (.bool (decide (Has n0 n1 side at_ ∧ s.size ≤ 420))) ∧ Below w.heap.size w w' := by
  unfold maxLen at hz
  have hn := Below.new (w := w) (.cells #[.slice A0 n0 c0, .slice A1 n1 c1, vl] 39)
  by_cases hh : Has n0 n1 side at_
  · have hr := decide_eq_true hh
    go_enter Tryz.func110, Tryz.ntmps110
    go_wp2_with fail
    refine (has_is A0 A1 n0 c0 n1 c1 side at_ _ true hr).mono ?_
    rintro e w1 ⟨rfl, hb⟩
    have HB := Lib.hid (hn.trans (hb.mono hn.size))
    have HH := Lib.hid hh
    clear hb hn hr hh
    go_wp2
    all_goals
      go_ret
      exact ⟨ret_bool (dec_eq (by have := HH.out; simp only [decide_eq_true_eq, this, true_and]; omega)), HB.out⟩
  · have hr := decide_eq_false hh
    go_enter Tryz.func110, Tryz.ntmps110
    go_wp2_with fail
    refine (has_is A0 A1 n0 c0 n1 c1 side at_ _ false hr).mono ?_
    rintro e w1 ⟨rfl, hb⟩
    have HB := Lib.hid (hn.trans (hb.mono hn.size))
    have HH := Lib.hid hh
    clear hb hn hr hh
    go_wp2
    all_goals
      go_ret
      exact ⟨ret_bool (dec_eq (by have := HH.out; simp [this])), HB.out⟩
theorem takes_is (A0 A1 : Option Addr) (vl : Value) (n c0 c1 : Nat) (side at_ : Int) (s : ByteArray) (w : World) (hz : s.size ≤ maxLen) (r : Bool) (hr : decide (There n side at_ s.size) = r) :
    Calls Tryz.prog 110 #[.agg #[.slice A0 n c0, .slice A1 n c1, vl], .int .i64 side, .int .i64 at_, .string s] w fun e w' => e = .returned (.bool r) ∧ Below w.heap.size w w' := by
  have h := takes_any A0 A1 vl n c0 n c1 side at_ s w hz
  rw [show decide (Has n n side at_ ∧ s.size ≤ 420) = r from (dec_eq (by simp only [decide_eq_true_eq]; exact has_there n side at_ s.size)).trans hr] at h
  exact h
end Go.Proofs.YtobjgdnmlibofaaGreat

/-
  impl's DiskOk: which disks are valid.
-/
set_option maxRecDepth 100000
namespace Go.Proofs.YtobjgdnmlibofaaGreat
open Go.ChangeShapes Go.WideShapes Go.ChangeAt Go.RowKit Go.Proofs.Palim

theorem idx2_0 (A0 A1 : Option Addr) (n0 c0 n1 c1 : Nat) (w : World) : (Instr.index 23 (.agg #[.slice A0 n0 c0, .slice A1 n1 c1]) (.int .i64 0)).run Tryz.prog w = .ok (.slice A0 n0 c0) w := by kernel_rfl
theorem idx2_1 (A0 A1 : Option Addr) (n0 c0 n1 c1 : Nat) (w : World) : (Instr.index 23 (.agg #[.slice A0 n0 c0, .slice A1 n1 c1]) (.int .i64 1)).run Tryz.prog w = .ok (.slice A1 n1 c1) w := by kernel_rfl

set_option maxHeartbeats 2000000 in
theorem ImplDiskOk_any (d : DiskM) (v0 v1 vl : Value) (w : World) (h : DiskR w v0 v1 vl d) (hs : DiskShort d) :
    Calls Tryz.prog 65 #[.agg #[v0, v1, vl]] w fun e w' => e = .returned (.bool (decide (DiskOkM d))) ∧ Below w.heap.size w w' := by
  obtain ⟨_, A0, c0, rfl, _⟩ := h.r0
  obtain ⟨_, A1, c1, rfl, _⟩ := h.r1
  obtain ⟨_, Al, cl, rfl, _⟩ := h.rl
  have hn0 := hs.n0
  have hn1 := hs.n1
  have hnl := hs.nl
  have HD := Lib.hid h
  have HS := Lib.hid hs
  clear h hs
  obtain ⟨n0, H0⟩ : ∃ n, Hid (d.s0.length = n) := ⟨_, Lib.hid rfl⟩
  obtain ⟨n1, H1⟩ : ∃ n, Hid (d.s1.length = n) := ⟨_, Lib.hid rfl⟩
  obtain ⟨nl, HL⟩ : ∃ n, Hid (d.late.length = n) := ⟨_, Lib.hid rfl⟩
  rw [H0.out] at hn0 HD ⊢
  rw [H1.out] at hn1 HD ⊢
  rw [HL.out] at hnl HD ⊢
  by_cases hok : 1 ≤ n0 ∧ n0 ≤ 120 ∧ n1 = n0 ∧ nl ≤ 600
  · obtain ⟨k1, k2, k3, k4⟩ := hok
    subst k3
    obtain ⟨b0, o0, c0', e0, hc0, hm0, hcell0⟩ := HD.out.r0.form (by have := H0.out; omega)
    obtain ⟨b1, o1, c1', e1, hc1, hm1, hcell1⟩ := HD.out.r1.form (by have := H1.out; omega)
    injection e0 with e0 e0' e0''
    injection e1 with e1 e1' e1''
    subst e0 e1 e0'' e1''
    have HC0 := Lib.hid hcell0
    have HC1 := Lib.hid hcell1
    rw [H0.out] at hc0
    rw [H1.out] at hc1
    have hbl0 : b0 < w.heap.size := HD.out.l0 b0 rfl
    have hbl1 : b1 < w.heap.size := HD.out.l1 b1 rfl
    unfold maxLen at hm0 hm1
    clear hcell0 hcell1 e0' e1'
    go_enter Tryz.func65, Tryz.ntmps65
    go_wp2
    go_loopw [36] (fun i wr => ∃ k : Nat, k ≤ 2 ∧ i = .int .i64 (k : Int) ∧ wr = w.alloc (.cells #[.slice (some ⟨b0, o0, none⟩) n1 c0, .slice (some ⟨b1, o1, none⟩) n1 c1, .slice Al nl cl] 39) ∧ Hid (1 ≤ k → ∀ (j : Nat) (h : j < d.s0.length), d.s0[j].size ≤ 420) ∧ Hid (2 ≤ k → ∀ (j : Nat) (h : j < d.s1.length), d.s1[j].size ≤ 420)) (fun i _ => 2 - (intOf i).toNat)
    case atStart => exact ⟨0, Nat.zero_le _, rfl, rfl, Lib.hid (fun h => absurd h (by omega)), Lib.hid (fun h => absurd h (by omega))⟩
    case round =>
      obtain ⟨k, hk, rfl, rfl, HA, HB⟩ := hrel
      have hk3 : k = 0 ∨ k = 1 ∨ k = 2 := by omega
      clear hk
      rcases hk3 with rfl | rfl | rfl
      · clear HA HB
        have hq0 : ∀ w : World, (Instr.index 23 (.agg #[.slice (some ⟨b0, o0, none⟩) n1 c0, .slice (some ⟨b1, o1, none⟩) n1 c1]) (.int .i64 0)).run Tryz.prog w = .ok (.slice (some ⟨b0, o0, none⟩) n1 c0) w := idx2_0 _ _ _ _ _ _
        go_wp2
        go_loopw [41] (fun j wr => ∃ m : Nat, m ≤ n1 ∧ j = .int .i64 (m : Int) ∧ wr = w.alloc (.cells #[.slice (some ⟨b0, o0, none⟩) n1 c0, .slice (some ⟨b1, o1, none⟩) n1 c1, .slice Al nl cl] 39) ∧ Hid (∀ (j : Nat) (h : j < d.s0.length), j < m → d.s0[j].size ≤ 420)) (fun j _ => n1 - (intOf j).toNat)
        case atStart => exact ⟨0, Nat.zero_le _, rfl, rfl, Lib.hid (fun j _ h => absurd h (Nat.not_lt_zero _))⟩
        case round =>
          obtain ⟨m, hm, rfl, rfl, HK⟩ := hrel
          by_cases hlt : m < n1
          · have hl : m < d.s0.length := by rw [H0.out]; exact hlt
            have g0 := HC0.out m _ (scs_at d.s0 m hl)
            have z0 := HS.out.z0 _ (List.getElem_mem hl)
            have HK1 := Lib.hid (show d.s0[m].size ≤ 420 → ∀ (j : Nat) (h : j < d.s0.length), j < m + 1 → d.s0[j].size ≤ 420 from fun hh j h hj => by
              rcases Nat.lt_succ_iff_lt_or_eq.1 hj with h2 | rfl
              · exact HK.out j h h2
              · exact hh)
            have HN := Lib.hid (show ¬ d.s0[m].size ≤ 420 → ¬ DiskOkM d from fun hh q => hh (q.2.2.2.2.1 _ (List.getElem_mem hl)))
            generalize d.s0[m] = x0 at g0 z0 HK1 HN
            clear hl
            by_cases hx : x0.size ≤ 420
            · have HK2 := Lib.hid (HK1.out hx)
              clear HK HK1 HN
              go_wp2
              go_roundw
              case rel => exact ⟨m + 1, by omega, by go_num, by first | trivial | rfl, HK2⟩
              case measure => simp [intOf]; omega
            · have HF := Lib.hid (decide_eq_false (HN.out hx)).symm
              have hx0 : 420 < x0.size := by omega
              clear HK HK1 HN hx
              go_wp2
              go_ret
              exact ⟨ret_bool HF.out, (Below.refl _ _).alloc (Nat.le_refl _) _⟩
          · have HE := Lib.hid (show ∀ (j : Nat) (h : j < d.s0.length), d.s0[j].size ≤ 420 from fun j h => HK.out j h (by have := H0.out; omega))
            clear HK
            go_wp2
            go_roundw
            case rel => exact ⟨1, by omega, by go_num, by first | trivial | rfl, Lib.hid (fun _ => HE.out), Lib.hid (fun h => absurd h (by omega))⟩
            case measure => simp [intOf]
      · have HE0 := Lib.hid (HA.out (Nat.le_refl _))
        clear HA HB
        have hq1 : ∀ w : World, (Instr.index 23 (.agg #[.slice (some ⟨b0, o0, none⟩) n1 c0, .slice (some ⟨b1, o1, none⟩) n1 c1]) (.int .i64 1)).run Tryz.prog w = .ok (.slice (some ⟨b1, o1, none⟩) n1 c1) w := idx2_1 _ _ _ _ _ _
        go_wp2
        go_loopw [41] (fun j wr => ∃ m : Nat, m ≤ n1 ∧ j = .int .i64 (m : Int) ∧ wr = w.alloc (.cells #[.slice (some ⟨b0, o0, none⟩) n1 c0, .slice (some ⟨b1, o1, none⟩) n1 c1, .slice Al nl cl] 39) ∧ Hid (∀ (j : Nat) (h : j < d.s1.length), j < m → d.s1[j].size ≤ 420)) (fun j _ => n1 - (intOf j).toNat)
        case atStart => exact ⟨0, Nat.zero_le _, rfl, rfl, Lib.hid (fun j _ h => absurd h (Nat.not_lt_zero _))⟩
        case round =>
          obtain ⟨m, hm, rfl, rfl, HK⟩ := hrel
          by_cases hlt : m < n1
          · have hl : m < d.s1.length := by rw [H1.out]; exact hlt
            have g0 := HC1.out m _ (scs_at d.s1 m hl)
            have z0 := HS.out.z1 _ (List.getElem_mem hl)
            have HK1 := Lib.hid (show d.s1[m].size ≤ 420 → ∀ (j : Nat) (h : j < d.s1.length), j < m + 1 → d.s1[j].size ≤ 420 from fun hh j h hj => by
              rcases Nat.lt_succ_iff_lt_or_eq.1 hj with h2 | rfl
              · exact HK.out j h h2
              · exact hh)
            have HN := Lib.hid (show ¬ d.s1[m].size ≤ 420 → ¬ DiskOkM d from fun hh q => hh (q.2.2.2.2.2.1 _ (List.getElem_mem hl)))
            generalize d.s1[m] = x0 at g0 z0 HK1 HN
            clear hl
            by_cases hx : x0.size ≤ 420
            · have HK2 := Lib.hid (HK1.out hx)
              clear HK HK1 HN
              go_wp2
              go_roundw
              case rel => exact ⟨m + 1, by omega, by go_num, by first | trivial | rfl, HK2⟩
              case measure => simp [intOf]; omega
            · have HF := Lib.hid (decide_eq_false (HN.out hx)).symm
              have hx0 : 420 < x0.size := by omega
              clear HK HK1 HN hx
              go_wp2
              go_ret
              exact ⟨ret_bool HF.out, (Below.refl _ _).alloc (Nat.le_refl _) _⟩
          · have HE := Lib.hid (show ∀ (j : Nat) (h : j < d.s1.length), d.s1[j].size ≤ 420 from fun j h => HK.out j h (by have := H1.out; omega))
            clear HK
            go_wp2
            go_roundw
            case rel => exact ⟨2, by omega, by go_num, by first | trivial | rfl, Lib.hid (fun _ => HE0.out), Lib.hid (fun _ => HE.out)⟩
            case measure => simp [intOf]
      · have HE0 := Lib.hid (HA.out (by omega))
        have HE1 := Lib.hid (HB.out (by omega))
        clear HA HB
        go_wp2
        go_loopw [53] (fun i wr => ∃ k : Nat, k ≤ nl ∧ i = .int .i64 (k : Int) ∧ Hid (Box wr w.heap.size [.slice (some ⟨b0, o0, none⟩) n1 c0, .slice (some ⟨b1, o1, none⟩) n1 c1, .slice Al nl cl]) ∧ w.heap.size + 1 ≤ wr.heap.size ∧ Hid (Below w.heap.size w wr) ∧ Hid (∀ (j : Nat) (h : j < d.late.length), j < k → There n1 d.late[j].side d.late[j].at_ d.late[j].text.size)) (fun i _ => nl - (intOf i).toNat)
        case atStart => exact ⟨0, Nat.zero_le _, rfl, Lib.hid (box_new _ _ _), by simp, Lib.hid ((Below.refl _ _).alloc (Nat.le_refl _) _), Lib.hid (fun j _ h => absurd h (Nat.not_lt_zero _))⟩
        case round =>
          obtain ⟨k, hk, rfl, HX, hsz, HB, HK⟩ := hrel
          obtain ⟨x0, x1, x2⟩ := HX.out.three
          by_cases hlt : k < nl
          · have hll : k < d.late.length := by rw [HL.out]; exact hlt
            obtain ⟨bl, ol, cl', el, hcl, hml, hcell⟩ := HD.out.rl.form (by have := HL.out; omega)
            injection el with el el' el''
            subst el el''
            rw [HL.out] at hcl
            unfold maxLen at hml
            have hbll : bl < w.heap.size := HD.out.ll bl rfl
            have hrd := late_read (fun j u hu => (HB.out.cell hbll).trans (hcell j u hu)) k hll
            have hz : d.late[k].text.size ≤ maxLen := by have := HS.out.zl _ (List.getElem_mem hll); unfold maxLen; omega
            have HN := Lib.hid (show ¬ There n1 d.late[k].side d.late[k].at_ d.late[k].text.size → ¬ DiskOkM d from fun hh q => hh (by have := q.2.2.2.2.2.2 _ (List.getElem_mem hll); rwa [H0.out] at this))
            have HK1 := Lib.hid (show There n1 d.late[k].side d.late[k].at_ d.late[k].text.size → ∀ (j : Nat) (h : j < d.late.length), j < k + 1 → There n1 d.late[j].side d.late[j].at_ d.late[j].text.size from fun hh j h0 hj => by
              rcases Nat.lt_succ_iff_lt_or_eq.1 hj with h | rfl
              · exact HK.out j h0 h
              · exact hh)
            generalize d.late[k] = x at hrd HN HK1 hz
            obtain ⟨h1, h2, h3⟩ := hrd
            have hj1 : (k : Int) < (nl : Int) := by omega
            have XL := Lib.hid (box_new wr #[.int .i64 x.side, .int .i64 x.at_, .string x.text] 81)
            have hnw := Lib.hid (Below.new (w := wr) (.cells #[.int .i64 x.side, .int .i64 x.at_, .string x.text] 81))
            have HX1 := Lib.hid (HX.out.alloc (.cells #[.int .i64 x.side, .int .i64 x.at_, .string x.text] 81))
            have HB1 := Lib.hid (HB.out.trans (hnw.out.mono HB.out.size))
            have HZ := Lib.hid hz
            obtain ⟨y0, y1, y2⟩ := HX1.out.three
            clear hcell el' hll hz HB x0 x1 x2
            by_cases hth : There n1 x.side x.at_ x.text.size
            · have HK2 := Lib.hid (HK1.out hth)
              replace hth := Lib.hid (decide_eq_true hth)
              clear HK HK1 HN
              go_wp2_with fail
              refine (takes_is _ _ _ n1 c0 c1 x.side x.at_ x.text _ HZ.out true hth.out).mono ?_
              rintro e w2 ⟨rfl, hb2⟩
              have HB2 := Lib.hid (HB1.out.trans (hb2.mono HB1.out.size))
              have HX2 := Lib.hid (HX1.out.below hb2 (by simp; omega))
              have hsz2 : w.heap.size + 1 ≤ w2.heap.size := Nat.le_trans (Nat.le_trans hsz hnw.out.size) hb2.size
              clear hb2 h1 h2 h3 HX y0 y1 y2 hth HZ HX1 HB1 hnw XL
              go_wp2
              go_roundw
              case rel =>
                refine ⟨_, _, _, _, _, _, _, _, _, _, _, _, _, _, _, _, ?_, rfl⟩
                exact ⟨k + 1, by omega, by go_num, HX2, hsz2, HB2, HK2⟩
              case measure => simp [intOf]; omega
            · have HF := Lib.hid (decide_eq_false (HN.out hth)).symm
              replace hth := Lib.hid (decide_eq_false hth)
              clear HK HK1 HN
              go_wp2_with fail
              refine (takes_is _ _ _ n1 c0 c1 x.side x.at_ x.text _ HZ.out false hth.out).mono ?_
              rintro e w2 ⟨rfl, hb2⟩
              have HB2 := Lib.hid (HB1.out.trans (hb2.mono HB1.out.size))
              clear hb2 h1 h2 h3 HX y0 y1 y2 hth HZ HX1 HB1 hnw XL
              go_wp2
              go_ret
              exact ⟨ret_bool HF.out, HB2.out⟩
          · have HT := Lib.hid (show DiskOkM d from ⟨by have := H0.out; omega, by have := H0.out; omega, by have := H0.out; have := H1.out; omega, by have := HL.out; omega,
              fun s hs => by
                obtain ⟨i, hi, rfl⟩ := List.mem_iff_getElem.1 hs
                exact HE0.out i hi,
              fun s hs => by
                obtain ⟨i, hi, rfl⟩ := List.mem_iff_getElem.1 hs
                exact HE1.out i hi,
              fun s hs => by
                obtain ⟨i, hi, rfl⟩ := List.mem_iff_getElem.1 hs
                rw [H0.out]
                exact HK.out i hi (by have := HL.out; omega)⟩)
            clear HK
            go_wp2
            go_ret
            exact ⟨ret_bool (decide_eq_true HT.out).symm, HB.out⟩
  · have HN := Lib.hid (show ¬ DiskOkM d from fun q => hok ⟨by have := q.1; have := H0.out; omega, by have := q.2.1; have := H0.out; omega, by have := q.2.2.1; have := H0.out; have := H1.out; omega, by have := q.2.2.2.1; have := HL.out; omega⟩)
    rw [decide_eq_false HN.out]
    have ho : n0 < 1 ∨ (1 ≤ n0 ∧ 120 < n0) ∨ (1 ≤ n0 ∧ n0 ≤ 120 ∧ n1 ≠ n0) ∨ (1 ≤ n0 ∧ n0 ≤ 120 ∧ n1 = n0 ∧ 600 < nl) := by omega
    clear hok
    rcases ho with k1 | ⟨k1, k2⟩ | ⟨k1, k2, k3⟩ | ⟨k1, k2, k3, k4⟩
    all_goals
      go_enter Tryz.func65, Tryz.ntmps65
      go_wp2
      go_ret
      exact ⟨rfl, (Below.refl _ _).alloc (Nat.le_refl _) _⟩
theorem ImOk_is (v0 v1 vl : Value) (d : DiskM) (w : World) (h : DiskR w v0 v1 vl d) (hs : DiskShort d) (r : Bool) (hr : decide (DiskOkM d) = r) :
    Calls Tryz.prog 65 #[.agg #[v0, v1, vl]] w fun e w' => e = .returned (.bool r) ∧ Below w.heap.size w w' := hr ▸ ImplDiskOk_any d v0 v1 vl w h hs
end Go.Proofs.YtobjgdnmlibofaaGreat

/-
  spec's l2Copy: a disk in new memory.
-/
set_option maxRecDepth 100000
namespace Go.Proofs.YtobjgdnmlibofaaGreat
open Go.ChangeShapes Go.WideShapes Go.ChangeAt Go.RowKit Go.Proofs.Palim

/-- What stays so while l2Copy's one region runs. -/
structure Reg (w : World) (v0 v1 vl : Value) (w' : World) : Prop where
  below : Below w.heap.size w w'
  box : Box w' w.heap.size [v0, v1, vl]
theorem Reg.drew {w w' : World} {v0 v1 vl : Value} (h : Reg w v0 v1 vl w') : Reg w v0 v1 vl w'.drew := ⟨h.below.drew, h.box⟩
theorem Reg.alloc {w w' : World} {v0 v1 vl : Value} (h : Reg w v0 v1 vl w') (o : Obj) : Reg w v0 v1 vl (w'.alloc o) := ⟨h.below.alloc h.below.size o, h.box.alloc o⟩
theorem Reg.setCell {w w' : World} {v0 v1 vl : Value} (h : Reg w v0 v1 vl w') (k : Nat) (u : Value) : Reg w v0 v1 vl (w'.setCell ⟨w.heap.size + 1, k, none⟩ u) := ⟨h.below.setCell (by simp) u, h.box.other (by simp) u⟩
theorem Reg.grown {w w' w2 : World} {v0 v1 vl : Value} {row : Option Nat} (h : Reg w v0 v1 vl w') (hg : w'.grownBy w2 row) (hr : ∀ g, row = some g → w.heap.size + 2 ≤ g) : Reg w v0 v1 vl w2 :=
  ⟨h.below.grown hg h.below.size (fun k e => by have := hr k e; omega), h.box.kept (hg.block _ h.box.lt (fun e => by have := hr _ e.symm; omega))⟩
theorem box_grown {w' w2 : World} {b B : Nat} {vs : List Value} {row : Option Nat} (h : Box w' b vs) (hg : w'.grownBy w2 row) (hr : ∀ g, row = some g → B ≤ g) (hb : b < B) : Box w2 b vs :=
  h.kept (hg.block _ h.lt (fun e => by have := hr _ e.symm; omega))
theorem Reg.all {w w' : World} {v0 v1 vl : Value} (h : Reg w v0 v1 vl w') : w'.cell? ⟨w.heap.size, 0, none⟩ = some v0 ∧ w'.cell? ⟨w.heap.size, 1, none⟩ = some v1 ∧ w'.cell? ⟨w.heap.size, 2, none⟩ = some vl ∧ Reg w v0 v1 vl w' := ⟨h.box.cell 0 rfl, h.box.cell 1 rfl, h.box.cell 2 rfl, h⟩

/-- Block g is empty, of elements e. -/
def At (w : World) (g e : Nat) : Prop := w.heap[g]? = some (.cells #[] e)
theorem At.drew {w : World} {g e : Nat} (h : At w g e) : At w.drew g e := h
theorem At.lt {w : World} {g e : Nat} (h : At w g e) : g < w.heap.size := (Array.getElem?_eq_some_iff.1 h).1
theorem At.alloc {w : World} {g e : Nat} (h : At w g e) (o : Obj) : At (w.alloc o) g e := (Below.heap_alloc w o g h.lt).trans h
theorem At.new {w : World} {g e : Nat} (h : w.heap.size = g) : At (w.alloc (.cells #[] e)) g e := by
  subst h
  show (w.heap.push _)[w.heap.size]? = _
  exact Array.getElem?_push_size
theorem At.grown {w w2 : World} {g g' e : Nat} (h : At w g e) (hk : ∀ k, k < w.heap.size → k ≠ g' → w2.heap[k]? = w.heap[k]?) (hne : g ≠ g') : At w2 g e := (hk g h.lt hne).trans h

theorem own_empty {w : World} {base e sz g : Nat} (h : At w g e) (hb : base ≤ g) : w.ownsRow base e sz (.slice (some ⟨g, 0, none⟩) 0 0) 0 [] := by
  simpa using own_new (sz := sz) (n := 0) h (by simp) (Nat.zero_le _) hb
theorem scs_one (ss : List ByteArray) : ∀ u ∈ scs ss, u.oneCell' = true := by
  intro u hu
  obtain ⟨s, _, rfl⟩ := List.mem_map.1 hu
  rfl
theorem lcs_one (ls : List LateM) : ∀ u ∈ lcs ls, u.oneCell' = true := by
  intro u hu
  obtain ⟨l, _, h⟩ := List.mem_flatMap.1 hu
  simp [lc] at h
  rcases h with rfl | rfl | rfl <;> rfl

/-- The block of an answer of append: the old one, or the one that is made now. -/
theorem loc {A : Option Addr} {n cap g s b : Nat} (ha : (Value.slice A n cap).ownBlock = (Value.slice (some ⟨g, 0, none⟩) 0 0).ownBlock ∨ (Value.slice A n cap).ownBlock = some s) (e : (Value.slice A n cap).ownBlock = some b) : b = g ∨ b = s := by
  rcases ha with h | h
  · left; rw [e] at h; simpa [Value.ownBlock] using h
  · right; rw [e] at h; simpa using h
theorem grown_from {w1 W w2 : World} {g : Nat} (hW : Below w1.heap.size w1 W) (hg : W.grownBy w2 (Value.slice (some ⟨g, 0, none⟩) 0 0).ownBlock) : (∀ b, b < w1.heap.size → b ≠ g → w2.heap[b]? = w1.heap[b]?) ∧ W.heap.size ≤ w2.heap.size ∧ w1.heap.size ≤ W.heap.size :=
  ⟨fun b hb hne => (hg.block b (Nat.lt_of_lt_of_le hb hW.size) (fun e => hne (by simpa [Value.ownBlock] using e))).trans (hW.block b hb), hg.size, hW.size⟩
theorem grown_kept {W w2 : World} {g : Nat} (hg : W.grownBy w2 (Value.slice (some ⟨g, 0, none⟩) 0 0).ownBlock) : ∀ k, k < W.heap.size → k ≠ g → w2.heap[k]? = W.heap[k]? :=
  fun k hk hne => hg.block k hk (fun e => hne (by simpa [Value.ownBlock] using e))

set_option maxHeartbeats 4000000 in
theorem l2Copy_any (v0 v1 vl : Value) (d : DiskM) (w : World) (h : DiskR w v0 v1 vl d) (hs : DiskShort d) :
    Calls Tryz.prog 72 #[.agg #[v0, v1, vl]] w (NewDisk w d) := by
  obtain ⟨i0, hi, hz0, hz1, hz2⟩ := info_parts infoStr
  obtain ⟨j0, hj, hy0, hy1, hy2⟩ := info_parts infoLate
  have HD := Lib.hid h
  have HS := Lib.hid hs
  clear h hs
  have hn0 := HS.out.n0
  have hn1 := HS.out.n1
  have hnl := HS.out.nl
  go_enter Tryz.func72, Tryz.ntmps72
  go_wp2_with fail
  obtain ⟨hA, hR, hsz, hB⟩ := box2 w #[v0, v1, vl] #[.slice none 0 0, .slice none 0 0, .slice none 0 0] 39 39
  have HR0 : Reg w v0 v1 vl ((w.alloc (.cells #[v0, v1, vl] 39)).alloc (.cells #[.slice none 0 0, .slice none 0 0, .slice none 0 0] 39)) := ⟨hB, hA⟩
  have hR0 : Box ((w.alloc (.cells #[v0, v1, vl] 39)).alloc (.cells #[.slice none 0 0, .slice none 0 0, .slice none 0 0] 39)) (w.heap.size + 1) [.slice none 0 0, .slice none 0 0, .slice none 0 0] := hR
  clear hA hB hR
  generalize hw0 : ((w.alloc (.cells #[v0, v1, vl] 39)).alloc (.cells #[.slice none 0 0, .slice none 0 0, .slice none 0 0] 39)) = w0 at HR0 hsz hR0 ⊢
  clear hw0
  go_region_held3 (fun w' => w'.cell? ⟨w.heap.size, 0, none⟩ = some v0 ∧ w'.cell? ⟨w.heap.size, 1, none⟩ = some v1 ∧ w'.cell? ⟨w.heap.size, 2, none⟩ = some vl ∧ Reg w v0 v1 vl w')
    (first
      | (go_split_ands; exact Reg.all (by repeat (first | with_reducible assumption | with_reducible apply Reg.drew | with_reducible apply Reg.alloc | with_reducible apply Reg.setCell))))
    (first
      | (refine step_append_fresh _ (by rfl) _ _ _ (by rfl) (w.heap.size + 2) 9 i0 _ 1 16 Tryz.underlying22 hi hz0 hz1 hz2 rfl (by omega) (.slice (some ⟨_, 0, none⟩) 0 0) 0 [] (by rfl) (own_empty (by repeat (first | with_reducible assumption | with_reducible apply At.drew | (with_reducible refine At.new ?_; first | with_reducible rfl | omega | (simp; done) | (simp; omega)) | with_reducible apply At.alloc)) (by first | omega | (simp <;> omega)))
          v0 d.s0.length (scs d.s0) (by rfl) (HD.out.r0.below (Reg.below (v0 := v0) (v1 := v1) (vl := vl) (by repeat (first | with_reducible assumption | with_reducible apply Reg.drew | with_reducible apply Reg.alloc))) HD.out.l0) (scs_one _) (by unfold maxLen; omega) (by omega) (by first | omega | (simp <;> omega)) ?_
         intro A0 cp0 w1 ho0 hg0 ha0
         have hreg0 : Reg w v0 v1 vl w1 := Reg.grown (by repeat (first | with_reducible assumption | with_reducible apply Reg.drew | with_reducible apply Reg.alloc)) hg0 (fun g e => by simp [Value.ownBlock] at e; omega)
         have hres0 : Box w1 (w.heap.size + 1) [.slice none 0 0, .slice none 0 0, .slice none 0 0] := box_grown (B := w.heap.size + 2) (by repeat (first | with_reducible assumption | with_reducible apply Box.drew | with_reducible apply Box.alloc)) hg0 (fun g e => by simp [Value.ownBlock] at e; omega) (by omega)
         have hk0 := grown_kept hg0
         have kp0 := grown_from (w1 := w0) (by repeat (first | with_reducible exact Below.refl _ _ | with_reducible apply Below.drew | with_reducible refine Below.alloc ?_ (by simp <;> omega) _)) hg0
         have sz0 := kp0.2
         try simp at sz0)
      | (refine step_append_fresh _ (by rfl) _ _ _ (by rfl) (w.heap.size + 2) 9 i0 _ 1 16 Tryz.underlying22 hi hz0 hz1 hz2 rfl (by omega) (.slice (some ⟨_, 0, none⟩) 0 0) 0 [] (by rfl) (own_empty (by repeat (first | with_reducible assumption | with_reducible apply At.drew | (with_reducible refine At.new ?_; first | with_reducible rfl | omega | (simp; done) | (simp; omega)) | with_reducible apply At.alloc | with_reducible refine At.grown ?_ hk0 (by omega))) (by first | omega | (simp <;> omega)))
          v1 d.s1.length (scs d.s1) (by rfl) (HD.out.r1.below (Reg.below (v0 := v0) (v1 := v1) (vl := vl) (by repeat (first | with_reducible assumption | with_reducible apply Reg.drew | with_reducible apply Reg.alloc))) HD.out.l1) (scs_one _) (by unfold maxLen; omega) (by omega) (by first | omega | (simp <;> omega)) ?_
         intro A1 cp1 w2 ho1 hg1 ha1
         have hreg1 : Reg w v0 v1 vl w2 := Reg.grown (by repeat (first | with_reducible assumption | with_reducible apply Reg.drew | with_reducible apply Reg.alloc)) hg1 (fun g e => by simp [Value.ownBlock] at e; omega)
         have hres1 : Box w2 (w.heap.size + 1) [.slice none 0 0, .slice none 0 0, .slice none 0 0] := box_grown (B := w.heap.size + 2) (by repeat (first | with_reducible assumption | with_reducible apply Box.drew | with_reducible apply Box.alloc)) hg1 (fun g e => by simp [Value.ownBlock] at e; omega) (by omega)
         have hk1 := grown_kept hg1
         have kp1 := grown_from (w1 := w1) (by repeat (first | with_reducible exact Below.refl _ _ | with_reducible apply Below.drew | with_reducible refine Below.alloc ?_ (by simp <;> omega) _)) hg1
         have sz1 := kp1.2
         try simp at sz1)
      | (refine step_append_fresh _ (by rfl) _ _ _ (by rfl) (w.heap.size + 2) 81 j0 _ 3 32 Tryz.underlying37 hj hy0 hy1 hy2 rfl (by omega) (.slice (some ⟨_, 0, none⟩) 0 0) 0 [] (by rfl) (own_empty (by repeat (first | with_reducible assumption | with_reducible apply At.drew | (with_reducible refine At.new ?_; first | with_reducible rfl | omega | (simp; done) | (simp; omega)) | with_reducible apply At.alloc | with_reducible refine At.grown ?_ hk1 (by omega) | with_reducible refine At.grown ?_ hk0 (by omega))) (by first | omega | (simp <;> omega)))
          vl d.late.length (lcs d.late) (by rfl) (HD.out.rl.below (Reg.below (v0 := v0) (v1 := v1) (vl := vl) (by repeat (first | with_reducible assumption | with_reducible apply Reg.drew | with_reducible apply Reg.alloc))) HD.out.ll) (lcs_one _) (by unfold maxLen; omega) (by omega) (by first | omega | (simp <;> omega)) ?_
         intro A2 cp2 w3 ho2 hg2 ha2
         have hreg2 : Reg w v0 v1 vl w3 := Reg.grown (by repeat (first | with_reducible assumption | with_reducible apply Reg.drew | with_reducible apply Reg.alloc)) hg2 (fun g e => by simp [Value.ownBlock] at e; omega)
         have hres2 : Box w3 (w.heap.size + 1) [.slice none 0 0, .slice none 0 0, .slice none 0 0] := box_grown (B := w.heap.size + 2) (by repeat (first | with_reducible assumption | with_reducible apply Box.drew | with_reducible apply Box.alloc)) hg2 (fun g e => by simp [Value.ownBlock] at e; omega) (by omega)
         have hk2 := grown_kept hg2
         have kp2 := grown_from (w1 := w2) (by repeat (first | with_reducible exact Below.refl _ _ | with_reducible apply Below.drew | with_reducible refine Below.alloc ?_ (by simp <;> omega) _)) hg2
         have sz2 := kp2.2
         try simp at sz2
         have r0 := hres2.cell 0 rfl
         have r1 := hres2.cell 1 rfl
         have r2 := hres2.cell 2 rfl
         have f0 := hres2.open_ 0
         have f1 := hres2.open_ 1
         have f2 := hres2.open_ 2))
  all_goals
    have O0 := Lib.hid (show w3.ownsRow (w.heap.size + 2) 9 1 (.slice A0 d.s0.length cp0) d.s0.length (scs d.s0) from by
      rw [Nat.zero_add, List.nil_append] at ho0
      rw [Nat.zero_add] at ha0
      refine own_kept (own_kept ho0 (w' := w2) fun b e => kp1.1 b (ho0.lt b e).2 ?_) (w' := w3) fun b e => kp2.1 b ?_ ?_
      · have h1 := (ho0.lt b e).2; have h2 := loc ha0 e; (try simp at h2); omega
      · have h1 := (ho0.lt b e).2; omega
      · have h1 := (ho0.lt b e).2; have h2 := loc ha0 e; (try simp at h2); omega)
    have O1 := Lib.hid (show w3.ownsRow (w.heap.size + 2) 9 1 (.slice A1 d.s1.length cp1) d.s1.length (scs d.s1) from by
      rw [Nat.zero_add, List.nil_append] at ho1
      rw [Nat.zero_add] at ha1
      refine own_kept ho1 (w' := w3) fun b e => kp2.1 b (ho1.lt b e).2 ?_
      have h1 := (ho1.lt b e).2; have h2 := loc ha1 e; (try simp at h2); omega)
    have O2 := Lib.hid (show w3.ownsRow (w.heap.size + 2) 81 3 (.slice A2 d.late.length cp2) d.late.length (lcs d.late) from by
      rw [Nat.zero_add, List.nil_append] at ho2
      exact ho2)
    have P01 := Lib.hid (show Apart (.slice A0 d.s0.length cp0) (.slice A1 d.s1.length cp1) from fun b e e' => by
      rw [Nat.zero_add] at ho0 ha0 ha1
      have h1 := (ho0.lt b e).2; have h2 := loc ha0 e; have h3 := loc ha1 e'; (try simp at h2); (try simp at h3); omega)
    have P02 := Lib.hid (show Apart (.slice A0 d.s0.length cp0) (.slice A2 d.late.length cp2) from fun b e e' => by
      rw [Nat.zero_add] at ho0 ha0 ha2
      have h1 := (ho0.lt b e).2; have h2 := loc ha0 e; have h3 := loc ha2 e'; (try simp at h2); (try simp at h3); omega)
    have P12 := Lib.hid (show Apart (.slice A1 d.s1.length cp1) (.slice A2 d.late.length cp2) from fun b e e' => by
      rw [Nat.zero_add] at ho1 ha1 ha2
      have h1 := (ho1.lt b e).2; have h2 := loc ha1 e; have h3 := loc ha2 e'; (try simp at h2); (try simp at h3); omega)
    clear ho0 ho1 ho2 ha0 ha1 ha2 hg0 hg1 hg2 hk0 hk1 hk2 kp0 kp1 kp2 sz0 sz1 sz2
    go_wp2
    have q1 := hres2.set 0 (.slice A0 d.s0.length cp0)
    have q2 := q1.set 1 (.slice A1 d.s1.length cp1)
    have q3 := q2.set 2 (.slice A2 d.late.length cp2)
    refine bodyPost_ret (v := .agg #[.slice A0 d.s0.length cp0, .slice A1 d.s1.length cp1, .slice A2 d.late.length cp2]) (by simp [results, Tryz.results72, go_sem, q1.cell 0 rfl, q2.cell 1 rfl, q3.cell 2 rfl]) rfl ⟨_, _, _, rfl, ⟨?_, ?_, ?_, P01.out, P02.out, P12.out⟩, ?_⟩
    · exact own_base (ownsRow_setCell_below (ownsRow_setCell_below (ownsRow_setCell_below O0.out (by simp) _) (by simp) _) (by simp) _) (by omega)
    · exact own_base (ownsRow_setCell_below (ownsRow_setCell_below (ownsRow_setCell_below O1.out (by simp) _) (by simp) _) (by simp) _) (by omega)
    · exact own_base (ownsRow_setCell_below (ownsRow_setCell_below (ownsRow_setCell_below O2.out (by simp) _) (by simp) _) (by simp) _) (by omega)
    · exact ((hreg2.below.setCell (by simp) _).setCell (by simp) _).setCell (by simp) _
end Go.Proofs.YtobjgdnmlibofaaGreat

/-
  slices.Clone at lists of strings and of late writes: the same cells in memory of the call's own.
-/
set_option maxRecDepth 100000
namespace Go.Proofs.Palim
open Go Go.RowKit
theorem wpList_append_fresh {P : Program} (w : World) {ops : Array Oper} {rest : List Oper} {o : Oper} {a : Act} {Q : Exit → Act → World → Prop} (hgd : o.guard = none) (s x : Operand) (t : TypeId)
    (ho : o.op = .call { callee := .builtin .append, args := #[s, x], argTypes := #[t, t] })
    (base : Nat) (e : TypeId) (i : TypeInfo) (z : Value) (size bytes : Nat) (ht : P.underlying t = some (.slice e)) (hi : P.info? e = some i) (hz : i.zero = some z)
    (hsize : i.size = size) (hby : i.bytes = bytes) (hzs : z.cells.size = size) (hsz : 0 < size)
    (v : Value) (n : Nat) (xs : List Value) (hs : a.eval s = v) (hown : w.ownsRow base e size v n xs)
    (u : Value) (m : Nat) (news : List Value) (hx : a.eval x = u) (hsl : Sl w size u m news) (h1 : ∀ u ∈ news, u.oneCell' = true)
    (h63 : n + m ≤ maxLen) (hbytes : (n + m) * bytes ≤ 140737488355328) (hbase : base ≤ w.heap.size)
    (h : ∀ A cap w', w'.ownsRow base e size (.slice A (n + m) cap) (n + m) (xs ++ news) → w.grownBy w' v.ownBlock → ((Value.slice A (n + m) cap).ownBlock = v.ownBlock ∨ (Value.slice A (n + m) cap).ownBlock = some w.heap.size) → wpList P ops Q rest (a.put o.dst (.slice A (n + m) cap)) w') : wpList P ops Q (o :: rest) a w :=
  wpList_plain hgd fun _ hK => wp_append_fresh w s x t ho base e i z size bytes ht hi hz hsize hby hzs hsz v n xs hs hown u m news hx hsl h1 h63 hbytes hbase fun A cap w' h2 h3 h4 => hK _ _ (h A cap w' h2 h3 h4)
end Go.Proofs.Palim
namespace Go.Proofs.YtobjgdnmlibofaaGreat
open Go.ChangeShapes Go.WideShapes Go.ChangeAt Go.RowKit Go.Proofs.Palim

/-- A slice of the call's own with the same cells. -/
def Cloned (w : World) (e sz n : Nat) (xs : List Value) (en : Ending) (w' : World) : Prop := ∃ A c, en = .returned (.slice A n c) ∧ w'.ownsRow w.heap.size e sz (.slice A n c) n xs ∧ Below w.heap.size w w'

theorem clone_done {w w1 : World} {e sz n m cap cp : Nat} {A : Option Addr} {xs : List Value} (hown : w1.ownsRow w.heap.size e sz (.slice A n cap) n xs) (hg : (w.alloc (.cells #[] m)).grownBy w1 (Value.slice (some ⟨w.heap.size, 0, none⟩) 0 cp).ownBlock) :
    w1.ownsRow w.heap.size e sz (.slice A n cap) n xs ∧ Below w.heap.size w w1 := by
  exact ⟨hown, ((Below.refl _ w).alloc (Nat.le_refl _) _).grown hg (by simp) (by intro k hk; simp [Value.ownBlock] at hk; omega)⟩

set_option maxHeartbeats 400000 in
theorem cloneStr_any (v : Value) (ss : List ByteArray) (w : World) (h : Sl w 1 v ss.length (scs ss)) (hl : Low w.heap.size v) (hn : ss.length ≤ 1048576) :
    Calls Tryz.prog 123 #[v] w (Cloned w 9 1 ss.length (scs ss)) := by
  obtain ⟨i0, hi, hz0, hz1, hz2⟩ := info_parts infoStr
  have q : ∀ (w : World) (a : Option Addr) (n c n' c' : Nat), (binOp .eql 22 (.slice a n c) (.slice none n' c')).run Tryz.prog w = .ok (.bool a.isNone) w := fun w a n c n' c' => Lib.run_eql_slice_nil w _ _ a n c n' c' Tryz.underlying22
  obtain ⟨n, HN⟩ : ∃ n, Hid (ss.length = n) := ⟨_, Lib.hid rfl⟩
  rw [HN.out] at h hn ⊢
  have HS := Lib.hid h
  have HL := Lib.hid hl
  obtain ⟨hlen, A, c, rfl, hnc, hcm, hcell⟩ := h
  clear hl
  cases A with
  | none =>
    have hz : n = 0 := hcell.resolve_right (by rintro ⟨_, _, h, _⟩; cases h)
    subst hz
    have HE := Lib.hid (show scs ss = [] from List.length_eq_zero_iff.1 hlen)
    clear hlen hcell
    go_enter Tryz.func123, Tryz.ntmps123
    go_wp2
    go_ret
    exact ⟨none, 0, rfl, by rw [HE.out]; exact ⟨rfl, .inl ⟨rfl, rfl⟩⟩, Below.refl _ _⟩
  | some a =>
    have HM := Lib.hid hcm
    clear hlen hcell hnc hcm
    go_enter Tryz.func123, Tryz.ntmps123
    go_wp2_with (first
      | (at_builtin; refine wpList_append_fresh _ rfl _ _ 22 rfl w.heap.size 9 i0 _ 1 16 Tryz.underlying22 hi hz0 hz1 hz2 rfl (by omega) (.slice (some ⟨w.heap.size, 0, none⟩) 0 0) 0 [] rfl (own_empty (At.new rfl) (Nat.le_refl _))
          (.slice (some a) n c) n (scs ss) rfl (HS.out.below ((Below.refl _ w).alloc (Nat.le_refl _) _) HL.out) (scs_one _) (by unfold maxLen; omega) (by omega) (by simp) ?_))
    intro A' cap w1 hown hg _
    obtain ⟨hown', hb⟩ := clone_done hown hg
    have HO := Lib.hid hown'
    have HB := Lib.hid hb
    clear hown hg hown' hb
    go_wp2
    go_ret
    exact ⟨A', cap, rfl, HO.out, HB.out⟩

set_option maxHeartbeats 400000 in
theorem cloneLate_any (v : Value) (ls : List LateM) (w : World) (h : Sl w 3 v ls.length (lcs ls)) (hl : Low w.heap.size v) (hn : ls.length ≤ 1048576) :
    Calls Tryz.prog 122 #[v] w (Cloned w 81 3 ls.length (lcs ls)) := by
  obtain ⟨i0, hi, hz0, hz1, hz2⟩ := info_parts infoLate
  have q : ∀ (w : World) (a : Option Addr) (n c n' c' : Nat), (binOp .eql 37 (.slice a n c) (.slice none n' c')).run Tryz.prog w = .ok (.bool a.isNone) w := fun w a n c n' c' => Lib.run_eql_slice_nil w _ _ a n c n' c' Tryz.underlying37
  obtain ⟨n, HN⟩ : ∃ n, Hid (ls.length = n) := ⟨_, Lib.hid rfl⟩
  rw [HN.out] at h hn ⊢
  have HS := Lib.hid h
  have HL := Lib.hid hl
  obtain ⟨hlen, A, c, rfl, hnc, hcm, hcell⟩ := h
  clear hl
  cases A with
  | none =>
    have hz : n = 0 := hcell.resolve_right (by rintro ⟨_, _, h, _⟩; cases h)
    subst hz
    have HE := Lib.hid (show lcs ls = [] from List.length_eq_zero_iff.1 (by simpa using hlen))
    clear hlen hcell
    go_enter Tryz.func122, Tryz.ntmps122
    go_wp2
    go_ret
    exact ⟨none, 0, rfl, by rw [HE.out]; exact ⟨rfl, .inl ⟨rfl, rfl⟩⟩, Below.refl _ _⟩
  | some a =>
    have HM := Lib.hid hcm
    clear hlen hcell hnc hcm
    go_enter Tryz.func122, Tryz.ntmps122
    go_wp2_with (first
      | (at_builtin; refine wpList_append_fresh _ rfl _ _ 37 rfl w.heap.size 81 i0 _ 3 32 Tryz.underlying37 hi hz0 hz1 hz2 rfl (by omega) (.slice (some ⟨w.heap.size, 0, none⟩) 0 0) 0 [] rfl (own_empty (At.new rfl) (Nat.le_refl _))
          (.slice (some a) n c) n (lcs ls) rfl (HS.out.below ((Below.refl _ w).alloc (Nat.le_refl _) _) HL.out) (lcs_one _) (by unfold maxLen; omega) (by omega) (by simp) ?_))
    intro A' cap w1 hown hg _
    obtain ⟨hown', hb⟩ := clone_done hown hg
    have HO := Lib.hid hown'
    have HB := Lib.hid hb
    clear hown hg hown' hb
    go_wp2
    go_ret
    exact ⟨A', cap, rfl, HO.out, HB.out⟩
end Go.Proofs.YtobjgdnmlibofaaGreat

/-
  impl's diskCopy and disk: a disk in memory of the call's own, and the disk that a draft has become.
-/
set_option maxRecDepth 100000
namespace Go.Proofs.YtobjgdnmlibofaaGreat
open Go.ChangeShapes Go.WideShapes Go.ChangeAt Go.RowKit Go.Proofs.Palim

theorem apart_of {w : World} {B e sz n : Nat} {v u : Value} {xs : List Value} (hv : Low B v) (hu : w.ownsRow B e sz u n xs) : Apart v u := fun g e e' => by
  have h1 := hv g e
  have h2 := (hu.lt g e').1
  omega

set_option maxHeartbeats 400000 in
theorem disk_any (A0 A1 Al : Option Addr) (n0 c0 n1 c1 nl cl : Nat) (w : World) :
    Calls Tryz.prog 75 #[.agg #[.slice A0 n0 c0, .slice A1 n1 c1, .slice Al nl cl]] w fun e w' => e = .returned (.agg #[.slice A0 n0 c0, .slice A1 n1 c1, .slice Al nl cl]) ∧ Below w.heap.size w w' := by
  go_enter Tryz.func75, Tryz.ntmps75
  go_wp2
  refine bodyPost_ret (v := .agg #[.slice A0 n0 c0, .slice A1 n1 c1, .slice Al nl cl]) (by simp [results, Tryz.results75, go_sem]) rfl ⟨rfl, ?_⟩
  exact ((Below.refl _ _).alloc (Nat.le_refl _) _).alloc (by simp) _

set_option maxHeartbeats 1000000 in
theorem diskCopy_any (v0 v1 vl : Value) (d : DiskM) (w : World) (h : DiskR w v0 v1 vl d) (hs : DiskShort d) :
    Calls Tryz.prog 74 #[.agg #[v0, v1, vl]] w (NewDisk w d) := by
  obtain ⟨_, A0, c0, rfl, _⟩ := h.r0
  obtain ⟨_, A1, c1, rfl, _⟩ := h.r1
  obtain ⟨_, Al, cl, rfl, _⟩ := h.rl
  have HD := Lib.hid h
  have HS := Lib.hid hs
  clear h hs
  obtain ⟨hA, hR, hsz, hB⟩ := box2 w #[.slice A0 d.s0.length c0, .slice A1 d.s1.length c1, .slice Al d.late.length cl] #[.slice none 0 0, .slice none 0 0, .slice none 0 0] 39 108
  have RD := Lib.hid (HD.out.below hB)
  have XD := Lib.hid hA
  have XR := Lib.hid hR
  have B0 := Lib.hid hB
  clear hA hR hB
  go_enter Tryz.func74, Tryz.ntmps74
  go_wp2_with fail
  refine (cloneLate_any _ d.late _ RD.out.rl RD.out.ll HS.out.nl).mono ?_
  rintro e w1 ⟨Ul, el, rfl, hol, hb⟩
  have hz1 := hb.size
  have RD1 := Lib.hid (RD.out.below hb)
  have XD1 := Lib.hid (XD.out.below hb (by omega))
  have XR1 := Lib.hid (XR.out.below hb (by omega))
  have B1 := Lib.hid (B0.out.trans (hb.mono (by omega)))
  have OL := Lib.hid (own_base hol (base' := w.heap.size + 2) (by omega))
  have LL := Lib.hid (low_of_own hol)
  clear hb RD XD XR B0 hol
  rw [hsz] at hz1
  clear hsz
  -- the draft's own box
  have hn := Below.new (w := w1) (.cells #[.slice none 0 0, .slice none 0 0, .slice Ul d.late.length el] 108)
  have RD2 := Lib.hid (RD1.out.below hn)
  have XD2 := Lib.hid (XD1.out.alloc (.cells #[.slice none 0 0, .slice none 0 0, .slice Ul d.late.length el] 108))
  have XR2 := Lib.hid (XR1.out.alloc (.cells #[.slice none 0 0, .slice none 0 0, .slice Ul d.late.length el] 108))
  have XW2 := Lib.hid (box_new w1 #[.slice none 0 0, .slice none 0 0, .slice Ul d.late.length el] 108)
  have OL2 := Lib.hid (own_kept OL.out (w' := w1.alloc (.cells #[.slice none 0 0, .slice none 0 0, .slice Ul d.late.length el] 108)) fun b e => hn.block b (OL.out.lt b e).2)
  have B2 := Lib.hid (B1.out.trans (hn.mono (by have := B1.out.size; omega)))
  clear hn RD1 XD1 XR1 B1 OL
  go_wp2
  go_loopw [9] (fun i wr => ∃ (k : Nat) (u0 u1 : Value), k ≤ 2 ∧ i = .int .i64 (k : Int) ∧ Hid (Box wr w.heap.size [.slice A0 d.s0.length c0, .slice A1 d.s1.length c1, .slice Al d.late.length cl]) ∧ Hid (Box wr (w.heap.size + 1) [.slice none 0 0, .slice none 0 0, .slice none 0 0]) ∧ Hid (Box wr w1.heap.size [u0, u1, .slice Ul d.late.length el]) ∧
      w1.heap.size + 1 ≤ wr.heap.size ∧ Hid (Below w.heap.size w wr) ∧
      Hid (wr.ownsRow (w.heap.size + 2) 81 3 (.slice Ul d.late.length el) d.late.length (lcs d.late)) ∧
      Hid (k = 0 → u0 = .slice none 0 0) ∧ Hid (k ≤ 1 → u1 = .slice none 0 0) ∧
      Hid (1 ≤ k → wr.ownsRow (w1.heap.size + 1) 9 1 u0 d.s0.length (scs d.s0)) ∧ Hid (2 ≤ k → wr.ownsRow (w1.heap.size + 1) 9 1 u1 d.s1.length (scs d.s1) ∧ Apart u0 u1)) (fun i _ => 2 - (intOf i).toNat)
  case atStart => exact ⟨0, _, _, Nat.zero_le _, rfl, XD2, XR2, XW2, by simp, B2, OL2, Lib.hid (fun _ => rfl), Lib.hid (fun _ => rfl), Lib.hid (fun h => absurd h (by omega)), Lib.hid (fun h => absurd h (by omega))⟩
  case round =>
    clear RD2 XD2 XR2 XW2 B2 OL2
    obtain ⟨k, u0, u1, hk, rfl, XD, XR, XW, hsz, B, OL, E0, E1, O0, O1⟩ := hrel
    have hk3 : k = 0 ∨ k = 1 ∨ k = 2 := by omega
    clear hk
    obtain ⟨x0, x1, x2⟩ := XD.out.three
    rcases hk3 with rfl | rfl | rfl
    · -- side 0
      obtain rfl := E0.out rfl
      obtain rfl := E1.out (by omega)
      clear E0 E1 O0 O1
      have RD := Lib.hid (HD.out.below B.out)
      go_wp2_with fail
      refine (cloneStr_any _ d.s0 _ RD.out.r0 RD.out.l0 HS.out.n0).mono ?_
      rintro e w2 ⟨V0, f0, rfl, ho, hb⟩
      have hz2 := hb.size
      have XW2 := Lib.hid (XW.out.below hb (by omega))
      have XD2 := Lib.hid (XD.out.below hb (by omega))
      have XR2 := Lib.hid (XR.out.below hb (by omega))
      have B2 := Lib.hid (B.out.trans (hb.mono (by omega)))
      have OL2 := Lib.hid (own_kept OL.out (w' := w2) fun b e => hb.block b (OL.out.lt b e).2)
      have O0 := Lib.hid (own_base ho (base' := w1.heap.size + 1) (by omega))
      clear ho hb XW XD XR B RD OL x0 x1 x2
      obtain ⟨y0, y1, y2⟩ := XW2.out.three
      have g0 := XW2.out.open_ 0
      go_wp2
      go_roundw
      case rel =>
        refine ⟨1, _, _, by omega, by go_num, Lib.hid (XD2.out.other (by simp; omega) _), Lib.hid (XR2.out.other (by simp; omega) _), Lib.hid (XW2.out.set 0 _), by simp; omega, Lib.hid (B2.out.setCell (by simp; omega) _), Lib.hid ?_, Lib.hid (fun h => absurd h (by omega)), Lib.hid (fun _ => rfl), Lib.hid (fun _ => ?_), Lib.hid (fun h => absurd h (by omega))⟩
        · exact own_kept OL2.out fun b e => Below.heap_setCell _ _ _ _ (by have := LL.out b e; simp; omega)
        · exact ownsRow_setCell_below O0.out (by simp) _
      case measure => simp [intOf]
    · -- side 1
      obtain rfl := E1.out (by omega)
      have P0 := Lib.hid (O0.out (by omega))
      clear E0 E1 O0 O1
      obtain ⟨_, V0, f0, rfl, _⟩ := sl_of_own P0.out
      have RD := Lib.hid (HD.out.below B.out)
      go_wp2_with fail
      refine (cloneStr_any _ d.s1 _ RD.out.r1 RD.out.l1 HS.out.n1).mono ?_
      rintro e w2 ⟨V1, f1, rfl, ho, hb⟩
      have hz2 := hb.size
      have XW2 := Lib.hid (XW.out.below hb (by omega))
      have XD2 := Lib.hid (XD.out.below hb (by omega))
      have XR2 := Lib.hid (XR.out.below hb (by omega))
      have B2 := Lib.hid (B.out.trans (hb.mono (by omega)))
      have OL2 := Lib.hid (own_kept OL.out (w' := w2) fun b e => hb.block b (OL.out.lt b e).2)
      have P2 := Lib.hid (own_kept P0.out (w' := w2) fun b e => hb.block b (P0.out.lt b e).2)
      have PA := Lib.hid (apart_of (low_of_own P0.out) ho)
      have O1 := Lib.hid (own_base ho (base' := w1.heap.size + 1) (by omega))
      clear ho hb XW XD XR B RD OL x0 x1 x2
      obtain ⟨y0, y1, y2⟩ := XW2.out.three
      have g0 := XW2.out.open_ 1
      go_wp2
      go_roundw
      case rel =>
        refine ⟨2, _, _, by omega, by go_num, Lib.hid (XD2.out.other (by simp; omega) _), Lib.hid (XR2.out.other (by simp; omega) _), Lib.hid (XW2.out.set 1 _), by simp; omega, Lib.hid (B2.out.setCell (by simp; omega) _), Lib.hid ?_, Lib.hid (fun h => absurd h (by omega)), Lib.hid (fun h => absurd h (by omega)), Lib.hid (fun _ => ?_), Lib.hid (fun _ => ⟨?_, ?_⟩)⟩
        · exact own_kept OL2.out fun b e => Below.heap_setCell _ _ _ _ (by have := LL.out b e; simp; omega)
        · exact ownsRow_setCell_below P2.out (by simp) _
        · exact ownsRow_setCell_below O1.out (by simp) _
        · exact PA.out
      case measure => simp [intOf]
    · have P0 := Lib.hid (O0.out (by omega))
      have P1 := Lib.hid (O1.out (by omega))
      clear E0 E1 O0 O1 XD x0 x1 x2
      obtain ⟨_, V0, f0, rfl, _⟩ := sl_of_own P0.out
      obtain ⟨_, V1, f1, rfl, _⟩ := sl_of_own P1.out.1
      obtain ⟨y0, y1, y2⟩ := XW.out.three
      obtain ⟨z0, z1, z2⟩ := XR.out.three
      have g0 := XR.out.open_ 0
      have g1 := XR.out.open_ 1
      have g2 := XR.out.open_ 2
      have PL0 := Lib.hid (show Apart (.slice V0 d.s0.length f0) (.slice Ul d.late.length el) from fun b e e' => by have := (P0.out.lt b e).1; have := LL.out b e'; omega)
      have PL1 := Lib.hid (show Apart (.slice V1 d.s1.length f1) (.slice Ul d.late.length el) from fun b e e' => by have := (P1.out.1.lt b e).1; have := LL.out b e'; omega)
      go_wp2
      have q1 := XR.out.set 0 (.slice V0 d.s0.length f0)
      have q2 := q1.set 1 (.slice V1 d.s1.length f1)
      have q3 := q2.set 2 (.slice Ul d.late.length el)
      refine bodyPost_ret (v := .agg #[.slice V0 d.s0.length f0, .slice V1 d.s1.length f1, .slice Ul d.late.length el]) (by simp [results, Tryz.results74, go_sem, q1.cell 0 rfl, q2.cell 1 rfl, q3.cell 2 rfl]) rfl ⟨_, _, _, rfl, ⟨?_, ?_, ?_, P1.out.2, PL0.out, PL1.out⟩, ?_⟩
      · exact own_base (ownsRow_setCell_below (ownsRow_setCell_below (ownsRow_setCell_below P0.out (by simp; omega) _) (by simp; omega) _) (by simp; omega) _) (by omega)
      · exact own_base (ownsRow_setCell_below (ownsRow_setCell_below (ownsRow_setCell_below P1.out.1 (by simp; omega) _) (by simp; omega) _) (by simp; omega) _) (by omega)
      · exact own_base (ownsRow_setCell_below (ownsRow_setCell_below (ownsRow_setCell_below OL.out (by simp) _) (by simp) _) (by simp) _) (by omega)
      · exact ((B.out.setCell (by simp) _).setCell (by simp) _).setCell (by simp) _
end Go.Proofs.YtobjgdnmlibofaaGreat

/-
  spec's DiskRead.
-/
set_option maxRecDepth 100000
namespace Go.Proofs.YtobjgdnmlibofaaGreat
open Go.ChangeShapes Go.WideShapes Go.ChangeAt Go.RowKit Go.Proofs.Palim

/-- The text of a sector that is there: the last late write of it, or what lies on the side. -/
def lastOf (side at_ : Int) : List LateM → Option ByteArray
  | [] => none
  | x :: xs => match lastOf side at_ xs with
    | some t => some t
    | none => if x.side = side ∧ x.at_ = at_ then some x.text else none
theorem lastOf_snoc (side at_ : Int) (ls : List LateM) (x : LateM) : lastOf side at_ (ls ++ [x]) = if x.side = side ∧ x.at_ = at_ then some x.text else lastOf side at_ ls := by
  induction ls with
  | nil => simp [lastOf]
  | cons y ls ih =>
    simp only [List.cons_append, lastOf, ih]
    by_cases h : x.side = side ∧ x.at_ = at_
    · simp [h]
    · simp [h]
def sideOf (d : DiskM) (side : Int) : List ByteArray := if side = 0 then d.s0 else d.s1
def secM (d : DiskM) (side at_ : Int) : ByteArray := (lastOf side at_ d.late).getD ((sideOf d side).getD at_.toNat ⟨#[]⟩)

theorem lastOf_append (side at_ : Int) (a b : List LateM) : lastOf side at_ (a ++ b) = (lastOf side at_ b).or (lastOf side at_ a) := by
  induction a with
  | nil => simp [lastOf]
  | cons x a ih =>
    simp only [List.cons_append, lastOf, ih]
    cases lastOf side at_ b <;> simp
theorem lastOf_at {side at_ : Int} {ls : List LateM} {j : Nat} (hj : j < ls.length) (hn : lastOf side at_ (ls.drop (j + 1)) = none) :
    (ls[j].side = side ∧ ls[j].at_ = at_ → lastOf side at_ ls = some ls[j].text) ∧ (¬ (ls[j].side = side ∧ ls[j].at_ = at_) → lastOf side at_ (ls.drop j) = none) := by
  have hd : ls.drop j = ls[j] :: ls.drop (j + 1) := List.drop_eq_getElem_cons hj
  constructor
  · intro h
    have h2 : lastOf side at_ (ls.drop j) = some ls[j].text := by rw [hd]; simp [lastOf, hn, h]
    have h3 := lastOf_append side at_ (ls.take j) (ls.drop j)
    rw [List.take_append_drop, h2] at h3
    exact h3
  · intro h
    rw [hd]; simp [lastOf, hn, h]

theorem ret_str {a b : ByteArray} (h : a = b) : Ending.returned (.string a) = Ending.returned (.string b) := by rw [h]

end Go.Proofs.YtobjgdnmlibofaaGreat

/-
  spec's DiskRead.
-/
set_option maxRecDepth 100000
namespace Go.Proofs.YtobjgdnmlibofaaGreat
open Go.ChangeShapes Go.WideShapes Go.ChangeAt Go.RowKit Go.Proofs.Palim

def CanRead (d : DiskM) (side at_ : Int) : Prop := DiskOkM d ∧ There d.s0.length side at_ 0
instance (d : DiskM) (side at_ : Int) : Decidable (CanRead d side at_) := by unfold CanRead; infer_instance
def readOut (d : DiskM) (side at_ : Int) : ByteArray := if CanRead d side at_ then secM d side at_ else ⟨#[]⟩

theorem DiskOk_is (v0 v1 vl : Value) (d : DiskM) (w : World) (h : DiskR w v0 v1 vl d) (hs : DiskShort d) (r : Bool) (hr : decide (DiskOkM d) = r) :
    Calls Tryz.prog 25 #[.agg #[v0, v1, vl]] w fun e w' => e = .returned (.bool r) ∧ Below w.heap.size w w' := hr ▸ DiskOk_any v0 v1 vl d w h hs
theorem ret_two {a b : ByteArray} {x y : Bool} (h : a = b) (h2 : x = y) : Ending.returned (.tuple #[.string a, .bool x]) = Ending.returned (.tuple #[.string b, .bool y]) := by rw [h, h2]

end Go.Proofs.YtobjgdnmlibofaaGreat

/-
  spec's DiskWrite.
-/
set_option maxRecDepth 100000
namespace Go.Proofs.YtobjgdnmlibofaaGreat
open Go.ChangeShapes Go.WideShapes Go.ChangeAt Go.RowKit Go.Proofs.Palim

def CanWrite (d : DiskM) (side at_ : Int) (text : ByteArray) : Prop := DiskOkM d ∧ There d.s0.length side at_ text.size ∧ d.late.length ≠ 600
instance (d : DiskM) (side at_ : Int) (text : ByteArray) : Decidable (CanWrite d side at_ text) := by unfold CanWrite; infer_instance
def writeM (d : DiskM) (side at_ : Int) (text : ByteArray) : DiskM :=
  if CanWrite d side at_ text then ⟨d.s0, d.s1, d.late ++ [⟨side, at_, text⟩]⟩ else if DiskOkM d then d else noDisk
def NewDisk2 (w : World) (d : DiskM) (b : Bool) (e : Ending) (w' : World) : Prop :=
  ∃ v0 v1 vl, e = .returned (.tuple #[.agg #[v0, v1, vl], .bool b]) ∧ DiskOwn w' w.heap.size v0 v1 vl d ∧ Below w.heap.size w w'

theorem DiskOwn.set3 {w : World} {base : Nat} {v0 v1 vl : Value} {d : DiskM} (h : DiskOwn w base v0 v1 vl d) {a b c : Addr} {x y z : Value} (ha : a.block < base) (hb : b.block < base) (hc : c.block < base) :
    DiskOwn (((w.setCell a x).setCell b y).setCell c z) base v0 v1 vl d :=
  h.kept fun k _ hk => by
    rw [Below.heap_setCell _ _ _ _ (by omega), Below.heap_setCell _ _ _ _ (by omega), Below.heap_setCell _ _ _ _ (by omega)]

end Go.Proofs.YtobjgdnmlibofaaGreat
