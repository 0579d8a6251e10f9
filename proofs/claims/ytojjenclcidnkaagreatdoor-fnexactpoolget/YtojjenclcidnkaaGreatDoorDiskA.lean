/-
  Texts joined into one.
-/
import Derived.Test.YtojjenclcidnkaaGreatDoorData
import Derived.Test.YtojjenclcidnkaaGreatDoorDiskOk
import Derived.Test.YtojjenclcidnkaaGreatDoorFresh
import Derived.Lib.SliceRun

/-
  impl's has and diskTakes: whether a sector is there, and whether a text fits into it.
-/
set_option maxRecDepth 100000
namespace Go.Proofs.YtojjenclcidnkaaGreatDoor
open Go.ChangeShapes Go.WideShapes Go.ChangeAt Go.RowKit Go.Proofs.Palim

/-- There is such a sector. -/
def Has (n0 n1 : Nat) (side at_ : Int) : Prop := (side = 0 ∧ 0 ≤ at_ ∧ at_ < n0) ∨ (side = 1 ∧ 0 ≤ at_ ∧ at_ < n1)
instance (n0 n1 : Nat) (side at_ : Int) : Decidable (Has n0 n1 side at_) := by unfold Has; infer_instance
theorem has_there (n : Nat) (side at_ : Int) (size : Nat) : (Has n n side at_ ∧ size ≤ 420) ↔ There n side at_ size := by unfold Has There; omega

set_option maxHeartbeats 400000 in
theorem has_any (A0 A1 : Option Addr) (n0 c0 n1 c1 : Nat) (side at_ : Int) (w : World) :
    Calls Tryz.prog 150 #[.agg #[.slice A0 n0 c0, .slice A1 n1 c1], .int .i64 side, .int .i64 at_] w fun e w' => e = .returned (.bool (decide (Has n0 n1 side at_))) ∧ Below w.heap.size w w' := by
  have hs : side < 0 ∨ side = 0 ∨ side = 1 ∨ 1 < side := by omega
  rcases hs with hs | rfl | rfl | hs
  all_goals
    go_enter Tryz.func150, Tryz.ntmps150
    go_wp2
    all_goals
      go_ret
      exact ⟨ret_bool (dec_eq (by simp only [decide_eq_true_eq, Bool.false_eq_true, false_iff]; unfold Has; omega)), (Below.refl _ _).alloc (Nat.le_refl _) _⟩
theorem has_is (A0 A1 : Option Addr) (n0 c0 n1 c1 : Nat) (side at_ : Int) (w : World) (r : Bool) (hr : decide (Has n0 n1 side at_) = r) :
    Calls Tryz.prog 150 #[.agg #[.slice A0 n0 c0, .slice A1 n1 c1], .int .i64 side, .int .i64 at_] w fun e w' => e = .returned (.bool r) ∧ Below w.heap.size w w' := hr ▸ has_any A0 A1 n0 c0 n1 c1 side at_ w

set_option maxHeartbeats 400000 in
theorem takes_any (A0 A1 : Option Addr) (vl : Value) (n0 c0 n1 c1 : Nat) (side at_ : Int) (s : ByteArray) (w : World) (hz : s.size ≤ maxLen) :
    Calls Tryz.prog 131 #[.agg #[.slice A0 n0 c0, .slice A1 n1 c1, vl], .int .i64 side, .int .i64 at_, .string s] w fun e w' => e = .returned (.bool (decide (Has n0 n1 side at_ ∧ s.size ≤ 420))) ∧ Below w.heap.size w w' := by
  unfold maxLen at hz
  have hn := Below.new (w := w) (.cells #[.slice A0 n0 c0, .slice A1 n1 c1, vl] 40)
  by_cases hh : Has n0 n1 side at_
  · have hr := decide_eq_true hh
    go_enter Tryz.func131, Tryz.ntmps131
    go_wp2_with fail
    refine (has_is A0 A1 n0 c0 n1 c1 side at_ _ true hr).mono ?_
    rintro e w1 ⟨rfl, hb⟩
    have HB := Lib.hid (hn.trans (hb.mono hn.size))
    have HH := Lib.hid hh
    clear hb hn hr hh
    go_wp2
    all_goals
      go_ret
      exact ⟨ret_bool (dec_eq (by have := HH.out; simp only [decide_eq_true_eq, this, true_and]; omega)), HB.out⟩
  · have hr := decide_eq_false hh
    go_enter Tryz.func131, Tryz.ntmps131
    go_wp2_with fail
    refine (has_is A0 A1 n0 c0 n1 c1 side at_ _ false hr).mono ?_
    rintro e w1 ⟨rfl, hb⟩
    have HB := Lib.hid (hn.trans (hb.mono hn.size))
    have HH := Lib.hid hh
    clear hb hn hr hh
    go_wp2
    all_goals
      go_ret
      exact ⟨ret_bool (dec_eq (by have := HH.out; simp [this])), HB.out⟩
theorem takes_is (A0 A1 : Option Addr) (vl : Value) (n c0 c1 : Nat) (side at_ : Int) (s : ByteArray) (w : World) (hz : s.size ≤ maxLen) (r : Bool) (hr : decide (There n side at_ s.size) = r) :
    Calls Tryz.prog 131 #[.agg #[.slice A0 n c0, .slice A1 n c1, vl], .int .i64 side, .int .i64 at_, .string s] w fun e w' => e = .returned (.bool r) ∧ Below w.heap.size w w' := by
  have h := takes_any A0 A1 vl n c0 n c1 side at_ s w hz
  rw [show decide (Has n n side at_ ∧ s.size ≤ 420) = r from (dec_eq (by simp only [decide_eq_true_eq]; exact has_there n side at_ s.size)).trans hr] at h
  exact h
end Go.Proofs.YtojjenclcidnkaaGreatDoor

/-
  impl's DiskOk: which disks are valid.
-/
set_option maxRecDepth 100000
namespace Go.Proofs.YtojjenclcidnkaaGreatDoor
open Go.ChangeShapes Go.WideShapes Go.ChangeAt Go.RowKit Go.Proofs.Palim

theorem idx2_0 (A0 A1 : Option Addr) (n0 c0 n1 c1 : Nat) (w : World) : (Instr.index 23 (.agg #[.slice A0 n0 c0, .slice A1 n1 c1]) (.int .i64 0)).run Tryz.prog w = .ok (.slice A0 n0 c0) w := by kernel_rfl
theorem idx2_1 (A0 A1 : Option Addr) (n0 c0 n1 c1 : Nat) (w : World) : (Instr.index 23 (.agg #[.slice A0 n0 c0, .slice A1 n1 c1]) (.int .i64 1)).run Tryz.prog w = .ok (.slice A1 n1 c1) w := by kernel_rfl

set_option maxHeartbeats 2000000 in
theorem ImplDiskOk_any (d : DiskM) (v0 v1 vl : Value) (w : World) (h : DiskR w v0 v1 vl d) (hs : DiskShort d) :
    Calls Tryz.prog 103 #[.agg #[v0, v1, vl]] w fun e w' => e = .returned (.bool (decide (DiskOkM d))) ∧ Below w.heap.size w w' := by
  obtain ⟨_, A0, c0, rfl, _⟩ := h.r0
  obtain ⟨_, A1, c1, rfl, _⟩ := h.r1
  obtain ⟨_, Al, cl, rfl, _⟩ := h.rl
  have hn0 := hs.n0
  have hn1 := hs.n1
  have hnl := hs.nl
  have HD := Lib.hid h
  have HS := Lib.hid hs
  clear h hs
  obtain ⟨n0, H0⟩ : ∃ n, Hid (d.s0.length = n) := ⟨_, Lib.hid rfl⟩
  obtain ⟨n1, H1⟩ : ∃ n, Hid (d.s1.length = n) := ⟨_, Lib.hid rfl⟩
  obtain ⟨nl, HL⟩ : ∃ n, Hid (d.late.length = n) := ⟨_, Lib.hid rfl⟩
  rw [H0.out] at hn0 HD ⊢
  rw [H1.out] at hn1 HD ⊢
  rw [HL.out] at hnl HD ⊢
  by_cases hok : 1 ≤ n0 ∧ n0 ≤ 120 ∧ n1 = n0 ∧ nl ≤ 600
  · obtain ⟨k1, k2, k3, k4⟩ := hok
    subst k3
    obtain ⟨b0, o0, c0', e0, hc0, hm0, hcell0⟩ := HD.out.r0.form (by have := H0.out; omega)
    obtain ⟨b1, o1, c1', e1, hc1, hm1, hcell1⟩ := HD.out.r1.form (by have := H1.out; omega)
    injection e0 with e0 e0' e0''
    injection e1 with e1 e1' e1''
    subst e0 e1 e0'' e1''
    have HC0 := Lib.hid hcell0
    have HC1 := Lib.hid hcell1
    rw [H0.out] at hc0
    rw [H1.out] at hc1
    have hbl0 : b0 < w.heap.size := HD.out.l0 b0 rfl
    have hbl1 : b1 < w.heap.size := HD.out.l1 b1 rfl
    unfold maxLen at hm0 hm1
    clear hcell0 hcell1 e0' e1'
    go_enter Tryz.func103, Tryz.ntmps103
    go_wp2
    go_loopw [36] (fun i wr => ∃ k : Nat, k ≤ 2 ∧ i = .int .i64 (k : Int) ∧ wr = w.alloc (.cells #[.slice (some ⟨b0, o0, none⟩) n1 c0, .slice (some ⟨b1, o1, none⟩) n1 c1, .slice Al nl cl] 40) ∧ Hid (1 ≤ k → ∀ (j : Nat) (h : j < d.s0.length), d.s0[j].size ≤ 420) ∧ Hid (2 ≤ k → ∀ (j : Nat) (h : j < d.s1.length), d.s1[j].size ≤ 420)) (fun i _ => 2 - (intOf i).toNat)
    case atStart => exact ⟨0, Nat.zero_le _, rfl, rfl, Lib.hid (fun h => absurd h (by omega)), Lib.hid (fun h => absurd h (by omega))⟩
    case round =>
      obtain ⟨k, hk, rfl, rfl, HA, HB⟩ := hrel
      have hk3 : k = 0 ∨ k = 1 ∨ k = 2 := by omega
      clear hk
      rcases hk3 with rfl | rfl | rfl
      · clear HA HB
        have hq0 : ∀ w : World, (Instr.index 23 (.agg #[.slice (some ⟨b0, o0, none⟩) n1 c0, .slice (some ⟨b1, o1, none⟩) n1 c1]) (.int .i64 0)).run Tryz.prog w = .ok (.slice (some ⟨b0, o0, none⟩) n1 c0) w := idx2_0 _ _ _ _ _ _
        go_wp2
        go_loopw [41] (fun j wr => ∃ m : Nat, m ≤ n1 ∧ j = .int .i64 (m : Int) ∧ wr = w.alloc (.cells #[.slice (some ⟨b0, o0, none⟩) n1 c0, .slice (some ⟨b1, o1, none⟩) n1 c1, .slice Al nl cl] 40) ∧ Hid (∀ (j : Nat) (h : j < d.s0.length), j < m → d.s0[j].size ≤ 420)) (fun j _ => n1 - (intOf j).toNat)
        case atStart => exact ⟨0, Nat.zero_le _, rfl, rfl, Lib.hid (fun j _ h => absurd h (Nat.not_lt_zero _))⟩
        case round =>
          obtain ⟨m, hm, rfl, rfl, HK⟩ := hrel
          by_cases hlt : m < n1
          · have hl : m < d.s0.length := by rw [H0.out]; exact hlt
            have g0 := HC0.out m _ (scs_at d.s0 m hl)
            have z0 := HS.out.z0 _ (List.getElem_mem hl)
            have HK1 := Lib.hid (show d.s0[m].size ≤ 420 → ∀ (j : Nat) (h : j < d.s0.length), j < m + 1 → d.s0[j].size ≤ 420 from fun hh j h hj => by
              rcases Nat.lt_succ_iff_lt_or_eq.1 hj with h2 | rfl
              · exact HK.out j h h2
              · exact hh)
            have HN := Lib.hid (show ¬ d.s0[m].size ≤ 420 → ¬ DiskOkM d from fun hh q => hh (q.2.2.2.2.1 _ (List.getElem_mem hl)))
            generalize d.s0[m] = x0 at g0 z0 HK1 HN
            clear hl
            by_cases hx : x0.size ≤ 420
            · have HK2 := Lib.hid (HK1.out hx)
              clear HK HK1 HN
              go_wp2
              go_roundw
              case rel => exact ⟨m + 1, by omega, by go_num, by first | trivial | rfl, HK2⟩
              case measure => simp [intOf]; omega
            · have HF := Lib.hid (decide_eq_false (HN.out hx)).symm
              have hx0 : 420 < x0.size := by omega
              clear HK HK1 HN hx
              go_wp2
              go_ret
              exact ⟨ret_bool HF.out, (Below.refl _ _).alloc (Nat.le_refl _) _⟩
          · have HE := Lib.hid (show ∀ (j : Nat) (h : j < d.s0.length), d.s0[j].size ≤ 420 from fun j h => HK.out j h (by have := H0.out; omega))
            clear HK
            go_wp2
            go_roundw
            case rel => exact ⟨1, by omega, by go_num, by first | trivial | rfl, Lib.hid (fun _ => HE.out), Lib.hid (fun h => absurd h (by omega))⟩
            case measure => simp [intOf]
      · have HE0 := Lib.hid (HA.out (Nat.le_refl _))
        clear HA HB
        have hq1 : ∀ w : World, (Instr.index 23 (.agg #[.slice (some ⟨b0, o0, none⟩) n1 c0, .slice (some ⟨b1, o1, none⟩) n1 c1]) (.int .i64 1)).run Tryz.prog w = .ok (.slice (some ⟨b1, o1, none⟩) n1 c1) w := idx2_1 _ _ _ _ _ _
        go_wp2
        go_loopw [41] (fun j wr => ∃ m : Nat, m ≤ n1 ∧ j = .int .i64 (m : Int) ∧ wr = w.alloc (.cells #[.slice (some ⟨b0, o0, none⟩) n1 c0, .slice (some ⟨b1, o1, none⟩) n1 c1, .slice Al nl cl] 40) ∧ Hid (∀ (j : Nat) (h : j < d.s1.length), j < m → d.s1[j].size ≤ 420)) (fun j _ => n1 - (intOf j).toNat)
        case atStart => exact ⟨0, Nat.zero_le _, rfl, rfl, Lib.hid (fun j _ h => absurd h (Nat.not_lt_zero _))⟩
        case round =>
          obtain ⟨m, hm, rfl, rfl, HK⟩ := hrel
          by_cases hlt : m < n1
          · have hl : m < d.s1.length := by rw [H1.out]; exact hlt
            have g0 := HC1.out m _ (scs_at d.s1 m hl)
            have z0 := HS.out.z1 _ (List.getElem_mem hl)
            have HK1 := Lib.hid (show d.s1[m].size ≤ 420 → ∀ (j : Nat) (h : j < d.s1.length), j < m + 1 → d.s1[j].size ≤ 420 from fun hh j h hj => by
              rcases Nat.lt_succ_iff_lt_or_eq.1 hj with h2 | rfl
              · exact HK.out j h h2
              · exact hh)
            have HN := Lib.hid (show ¬ d.s1[m].size ≤ 420 → ¬ DiskOkM d from fun hh q => hh (q.2.2.2.2.2.1 _ (List.getElem_mem hl)))
            generalize d.s1[m] = x0 at g0 z0 HK1 HN
            clear hl
            by_cases hx : x0.size ≤ 420
            · have HK2 := Lib.hid (HK1.out hx)
              clear HK HK1 HN
              go_wp2
              go_roundw
              case rel => exact ⟨m + 1, by omega, by go_num, by first | trivial | rfl, HK2⟩
              case measure => simp [intOf]; omega
            · have HF := Lib.hid (decide_eq_false (HN.out hx)).symm
              have hx0 : 420 < x0.size := by omega
              clear HK HK1 HN hx
              go_wp2
              go_ret
              exact ⟨ret_bool HF.out, (Below.refl _ _).alloc (Nat.le_refl _) _⟩
          · have HE := Lib.hid (show ∀ (j : Nat) (h : j < d.s1.length), d.s1[j].size ≤ 420 from fun j h => HK.out j h (by have := H1.out; omega))
            clear HK
            go_wp2
            go_roundw
            case rel => exact ⟨2, by omega, by go_num, by first | trivial | rfl, Lib.hid (fun _ => HE0.out), Lib.hid (fun _ => HE.out)⟩
            case measure => simp [intOf]
      · have HE0 := Lib.hid (HA.out (by omega))
        have HE1 := Lib.hid (HB.out (by omega))
        clear HA HB
        go_wp2
        go_loopw [53] (fun i wr => ∃ k : Nat, k ≤ nl ∧ i = .int .i64 (k : Int) ∧ Hid (Box wr w.heap.size [.slice (some ⟨b0, o0, none⟩) n1 c0, .slice (some ⟨b1, o1, none⟩) n1 c1, .slice Al nl cl]) ∧ w.heap.size + 1 ≤ wr.heap.size ∧ Hid (Below w.heap.size w wr) ∧ Hid (∀ (j : Nat) (h : j < d.late.length), j < k → There n1 d.late[j].side d.late[j].at_ d.late[j].text.size)) (fun i _ => nl - (intOf i).toNat)
        case atStart => exact ⟨0, Nat.zero_le _, rfl, Lib.hid (box_new _ _ _), by simp, Lib.hid ((Below.refl _ _).alloc (Nat.le_refl _) _), Lib.hid (fun j _ h => absurd h (Nat.not_lt_zero _))⟩
        case round =>
          obtain ⟨k, hk, rfl, HX, hsz, HB, HK⟩ := hrel
          obtain ⟨x0, x1, x2⟩ := HX.out.three
          by_cases hlt : k < nl
          · have hll : k < d.late.length := by rw [HL.out]; exact hlt
            obtain ⟨bl, ol, cl', el, hcl, hml, hcell⟩ := HD.out.rl.form (by have := HL.out; omega)
            injection el with el el' el''
            subst el el''
            rw [HL.out] at hcl
            unfold maxLen at hml
            have hbll : bl < w.heap.size := HD.out.ll bl rfl
            have hrd := late_read (fun j u hu => (HB.out.cell hbll).trans (hcell j u hu)) k hll
            have hz : d.late[k].text.size ≤ maxLen := by have := HS.out.zl _ (List.getElem_mem hll); unfold maxLen; omega
            have HN := Lib.hid (show ¬ There n1 d.late[k].side d.late[k].at_ d.late[k].text.size → ¬ DiskOkM d from fun hh q => hh (by have := q.2.2.2.2.2.2 _ (List.getElem_mem hll); rwa [H0.out] at this))
            have HK1 := Lib.hid (show There n1 d.late[k].side d.late[k].at_ d.late[k].text.size → ∀ (j : Nat) (h : j < d.late.length), j < k + 1 → There n1 d.late[j].side d.late[j].at_ d.late[j].text.size from fun hh j h0 hj => by
              rcases Nat.lt_succ_iff_lt_or_eq.1 hj with h | rfl
              · exact HK.out j h0 h
              · exact hh)
            generalize d.late[k] = x at hrd HN HK1 hz
            obtain ⟨h1, h2, h3⟩ := hrd
            have hj1 : (k : Int) < (nl : Int) := by omega
            have XL := Lib.hid (box_new wr #[.int .i64 x.side, .int .i64 x.at_, .string x.text] 147)
            have hnw := Lib.hid (Below.new (w := wr) (.cells #[.int .i64 x.side, .int .i64 x.at_, .string x.text] 147))
            have HX1 := Lib.hid (HX.out.alloc (.cells #[.int .i64 x.side, .int .i64 x.at_, .string x.text] 147))
            have HB1 := Lib.hid (HB.out.trans (hnw.out.mono HB.out.size))
            have HZ := Lib.hid hz
            obtain ⟨y0, y1, y2⟩ := HX1.out.three
            clear hcell el' hll hz HB x0 x1 x2
            by_cases hth : There n1 x.side x.at_ x.text.size
            · have HK2 := Lib.hid (HK1.out hth)
              replace hth := Lib.hid (decide_eq_true hth)
              clear HK HK1 HN
              go_wp2_with fail
              refine (takes_is _ _ _ n1 c0 c1 x.side x.at_ x.text _ HZ.out true hth.out).mono ?_
              rintro e w2 ⟨rfl, hb2⟩
              have HB2 := Lib.hid (HB1.out.trans (hb2.mono HB1.out.size))
              have HX2 := Lib.hid (HX1.out.below hb2 (by simp; omega))
              have hsz2 : w.heap.size + 1 ≤ w2.heap.size := Nat.le_trans (Nat.le_trans hsz hnw.out.size) hb2.size
              clear hb2 h1 h2 h3 HX y0 y1 y2 hth HZ HX1 HB1 hnw XL
              go_wp2
              go_roundw
              case rel =>
                refine ⟨_, _, _, _, _, _, _, _, _, _, _, _, _, _, _, _, ?_, rfl⟩
                exact ⟨k + 1, by omega, by go_num, HX2, hsz2, HB2, HK2⟩
              case measure => simp [intOf]; omega
            · have HF := Lib.hid (decide_eq_false (HN.out hth)).symm
              replace hth := Lib.hid (decide_eq_false hth)
              clear HK HK1 HN
              go_wp2_with fail
              refine (takes_is _ _ _ n1 c0 c1 x.side x.at_ x.text _ HZ.out false hth.out).mono ?_
              rintro e w2 ⟨rfl, hb2⟩
              have HB2 := Lib.hid (HB1.out.trans (hb2.mono HB1.out.size))
              clear hb2 h1 h2 h3 HX y0 y1 y2 hth HZ HX1 HB1 hnw XL
              go_wp2
              go_ret
              exact ⟨ret_bool HF.out, HB2.out⟩
          · have HT := Lib.hid (show DiskOkM d from ⟨by have := H0.out; omega, by have := H0.out; omega, by have := H0.out; have := H1.out; omega, by have := HL.out; omega,
              fun s hs => by
                obtain ⟨i, hi, rfl⟩ := List.mem_iff_getElem.1 hs
                exact HE0.out i hi,
              fun s hs => by
                obtain ⟨i, hi, rfl⟩ := List.mem_iff_getElem.1 hs
                exact HE1.out i hi,
              fun s hs => by
                obtain ⟨i, hi, rfl⟩ := List.mem_iff_getElem.1 hs
                rw [H0.out]
                exact HK.out i hi (by have := HL.out; omega)⟩)
            clear HK
            go_wp2
            go_ret
            exact ⟨ret_bool (decide_eq_true HT.out).symm, HB.out⟩
  · have HN := Lib.hid (show ¬ DiskOkM d from fun q => hok ⟨by have := q.1; have := H0.out; omega, by have := q.2.1; have := H0.out; omega, by have := q.2.2.1; have := H0.out; have := H1.out; omega, by have := q.2.2.2.1; have := HL.out; omega⟩)
    rw [decide_eq_false HN.out]
    have ho : n0 < 1 ∨ (1 ≤ n0 ∧ 120 < n0) ∨ (1 ≤ n0 ∧ n0 ≤ 120 ∧ n1 ≠ n0) ∨ (1 ≤ n0 ∧ n0 ≤ 120 ∧ n1 = n0 ∧ 600 < nl) := by omega
    clear hok
    rcases ho with k1 | ⟨k1, k2⟩ | ⟨k1, k2, k3⟩ | ⟨k1, k2, k3, k4⟩
    all_goals
      go_enter Tryz.func103, Tryz.ntmps103
      go_wp2
      go_ret
      exact ⟨rfl, (Below.refl _ _).alloc (Nat.le_refl _) _⟩
theorem ImOk_is (v0 v1 vl : Value) (d : DiskM) (w : World) (h : DiskR w v0 v1 vl d) (hs : DiskShort d) (r : Bool) (hr : decide (DiskOkM d) = r) :
    Calls Tryz.prog 103 #[.agg #[v0, v1, vl]] w fun e w' => e = .returned (.bool r) ∧ Below w.heap.size w w' := hr ▸ ImplDiskOk_any d v0 v1 vl w h hs
end Go.Proofs.YtojjenclcidnkaaGreatDoor

/-
  spec's DiskRead.
-/
set_option maxRecDepth 100000
namespace Go.Proofs.YtojjenclcidnkaaGreatDoor
open Go.ChangeShapes Go.WideShapes Go.ChangeAt Go.RowKit Go.Proofs.Palim

/-- The text of a sector that is there: the last late write of it, or what lies on the side. -/
def lastOf (side at_ : Int) : List LateM → Option ByteArray
  | [] => none
  | x :: xs => match lastOf side at_ xs with
    | some t => some t
    | none => if x.side = side ∧ x.at_ = at_ then some x.text else none
theorem lastOf_snoc (side at_ : Int) (ls : List LateM) (x : LateM) : lastOf side at_ (ls ++ [x]) = if x.side = side ∧ x.at_ = at_ then some x.text else lastOf side at_ ls := by
  induction ls with
  | nil => simp [lastOf]
  | cons y ls ih =>
    simp only [List.cons_append, lastOf, ih]
    by_cases h : x.side = side ∧ x.at_ = at_
    · simp [h]
    · simp [h]
def sideOf (d : DiskM) (side : Int) : List ByteArray := if side = 0 then d.s0 else d.s1
def secM (d : DiskM) (side at_ : Int) : ByteArray := (lastOf side at_ d.late).getD ((sideOf d side).getD at_.toNat ⟨#[]⟩)

theorem lastOf_append (side at_ : Int) (a b : List LateM) : lastOf side at_ (a ++ b) = (lastOf side at_ b).or (lastOf side at_ a) := by
  induction a with
  | nil => simp [lastOf]
  | cons x a ih =>
    simp only [List.cons_append, lastOf, ih]
    cases lastOf side at_ b <;> simp
theorem lastOf_at {side at_ : Int} {ls : List LateM} {j : Nat} (hj : j < ls.length) (hn : lastOf side at_ (ls.drop (j + 1)) = none) :
    (ls[j].side = side ∧ ls[j].at_ = at_ → lastOf side at_ ls = some ls[j].text) ∧ (¬ (ls[j].side = side ∧ ls[j].at_ = at_) → lastOf side at_ (ls.drop j) = none) := by
  have hd : ls.drop j = ls[j] :: ls.drop (j + 1) := List.drop_eq_getElem_cons hj
  constructor
  · intro h
    have h2 : lastOf side at_ (ls.drop j) = some ls[j].text := by rw [hd]; simp [lastOf, hn, h]
    have h3 := lastOf_append side at_ (ls.take j) (ls.drop j)
    rw [List.take_append_drop, h2] at h3
    exact h3
  · intro h
    rw [hd]; simp [lastOf, hn, h]

theorem ret_str {a b : ByteArray} (h : a = b) : Ending.returned (.string a) = Ending.returned (.string b) := by rw [h]

set_option maxHeartbeats 1000000 in
theorem l2Read_any (v0 v1 vl : Value) (d : DiskM) (side at_ : Int) (w : World) (h : DiskR w v0 v1 vl d) (hs : DiskShort d) (hs0 : side = 0 ∨ side = 1) (ha0 : 0 ≤ at_) (ha1 : at_ < d.s0.length) (ha2 : d.s1.length = d.s0.length) :
    Calls Tryz.prog 55 #[.agg #[v0, v1, vl], .int .i64 side, .int .i64 at_] w fun e w' => e = .returned (.string (secM d side at_)) ∧ Below w.heap.size w w' := by
  obtain ⟨k, rfl⟩ : ∃ k : Nat, at_ = k := ⟨at_.toNat, by omega⟩
  have hk0 : k < d.s0.length := by omega
  have hk1 : k < d.s1.length := by omega
  obtain ⟨b0, o0, c0, rfl, hc0, hm0, hcell0⟩ := h.r0.form (by omega)
  obtain ⟨b1, o1, c1, rfl, hc1, hm1, hcell1⟩ := h.r1.form (by omega)
  obtain ⟨_, Al, cl, rfl, _⟩ := h.rl
  have hnl := hs.nl
  have HD := Lib.hid h
  have g0 := hcell0 k _ (scs_at d.s0 k hk0)
  have g1 := hcell1 k _ (scs_at d.s1 k hk1)
  have hbl0 : b0 < w.heap.size := h.l0 b0 rfl
  have hbl1 : b1 < w.heap.size := h.l1 b1 rfl
  have E0 := Lib.hid (show (sideOf d 0).getD ((k : Nat) : Int).toNat ⟨#[]⟩ = d.s0[k] from by simp [sideOf, hk0])
  have E1 := Lib.hid (show (sideOf d 1).getD ((k : Nat) : Int).toNat ⟨#[]⟩ = d.s1[k] from by simp [sideOf, hk1])
  generalize d.s0[k] = t0 at g0 E0
  generalize d.s1[k] = t1 at g1 E1
  have hs1' := hs.n1
  have hs0' := hs.n0
  obtain ⟨n0, H0⟩ : ∃ n, Hid (d.s0.length = n) := ⟨_, Lib.hid rfl⟩
  obtain ⟨n1, H1⟩ : ∃ n, Hid (d.s1.length = n) := ⟨_, Lib.hid rfl⟩
  obtain ⟨nl, HL⟩ : ∃ n, Hid (d.late.length = n) := ⟨_, Lib.hid rfl⟩
  rw [HL.out] at hnl HD ⊢
  rw [H0.out] at HD ha1 ha2 hc0 hk0 hs0' ⊢
  rw [H1.out] at HD ha2 hc1 hk1 hs1' ⊢
  unfold maxLen at hm0 hm1
  clear h hs hcell0 hcell1 ha0 ha1 ha2
  have HSD := Lib.hid hs0
  clear hs0
  go_enter Tryz.func55, Tryz.ntmps55
  go_wp2
  go_loopw [7] (fun i wr => ∃ j : Nat, j ≤ nl ∧ i = .int .i64 ((j : Int) - 1) ∧ wr = w.alloc (.cells #[.slice (some ⟨b0, o0, none⟩) n0 c0, .slice (some ⟨b1, o1, none⟩) n1 c1, .slice Al nl cl] 40) ∧ Hid (lastOf side (k : Int) (d.late.drop j) = none)) (fun i _ => (intOf i + 1).toNat)
  case atStart => exact ⟨nl, Nat.le_refl _, rfl, rfl, Lib.hid (by rw [List.drop_of_length_le (by rw [HL.out]; exact Nat.le_refl _)]; rfl)⟩
  case round =>
    obtain ⟨j, hj, rfl, rfl, HN⟩ := hrel
    by_cases hj0 : j = 0
    · subst hj0
      have HE := Lib.hid (show lastOf side (k : Int) d.late = none from HN.out)
      have e2 := HSD.out
      rcases e2 with rfl | rfl
      · go_wp2
        go_ret
        exact ⟨ret_str (show t0 = secM d 0 (k : Int) from by unfold secM; rw [HE.out, E0.out]; rfl), (Below.refl _ _).alloc (Nat.le_refl _) _⟩
      · go_wp2
        go_ret
        exact ⟨ret_str (show t1 = secM d 1 (k : Int) from by unfold secM; rw [HE.out, E1.out]; rfl), (Below.refl _ _).alloc (Nat.le_refl _) _⟩
    · obtain ⟨m, rfl⟩ : ∃ m, j = m + 1 := ⟨j - 1, by omega⟩
      have hml : m < d.late.length := by rw [HL.out]; omega
      obtain ⟨bl, ol, cl', el, hcl, hmx, hcell⟩ := HD.out.rl.form (by have := HL.out; omega)
      injection el with el el' el''
      subst el el''
      rw [HL.out] at hcl
      unfold maxLen at hmx
      have hbll : bl < w.heap.size := HD.out.ll bl rfl
      have hrd := late_read hcell m hml
      have HX := Lib.hid (lastOf_at hml HN.out)
      generalize d.late[m] = x at hrd HX
      obtain ⟨p1, p2, p3⟩ := hrd
      have hm1 : (m : Int) < (nl : Int) := by omega
      clear hcell el' hml HN hj0
      have hi1 : ((m + 1 : Nat) : Int) - 1 = (m : Int) := by omega
      rw [hi1]
      by_cases hx : x.side = side ∧ x.at_ = (k : Int)
      · have HE := Lib.hid (HX.out.1 hx)
        obtain ⟨hx1, hx2⟩ := hx
        clear HX
        go_wp2
        go_ret
        exact ⟨ret_str (show x.text = secM d side (k : Int) from by unfold secM; rw [HE.out]; rfl), (Below.refl _ _).alloc (Nat.le_refl _) _⟩
      · have HE := Lib.hid (HX.out.2 hx)
        have hx' : ¬ x.side = side ∨ (x.side = side ∧ ¬ x.at_ = (k : Int)) := by
          by_cases h : x.side = side
          · exact Or.inr ⟨h, fun h2 => hx ⟨h, h2⟩⟩
          · exact Or.inl h
        clear HX hx
        rcases hx' with hx1 | ⟨hx1, hx2⟩
        all_goals
          go_wp2
          go_roundw
          case rel => exact ⟨m, by omega, by go_num, by first | trivial | rfl, HE⟩
          case measure => simp [intOf]
end Go.Proofs.YtojjenclcidnkaaGreatDoor

/-
  spec's DiskRead.
-/
set_option maxRecDepth 100000
namespace Go.Proofs.YtojjenclcidnkaaGreatDoor
open Go.ChangeShapes Go.WideShapes Go.ChangeAt Go.RowKit Go.Proofs.Palim

def CanRead (d : DiskM) (side at_ : Int) : Prop := DiskOkM d ∧ There d.s0.length side at_ 0
instance (d : DiskM) (side at_ : Int) : Decidable (CanRead d side at_) := by unfold CanRead; infer_instance
def readOut (d : DiskM) (side at_ : Int) : ByteArray := if CanRead d side at_ then secM d side at_ else ⟨#[]⟩

theorem DiskOk_is (v0 v1 vl : Value) (d : DiskM) (w : World) (h : DiskR w v0 v1 vl d) (hs : DiskShort d) (r : Bool) (hr : decide (DiskOkM d) = r) :
    Calls Tryz.prog 51 #[.agg #[v0, v1, vl]] w fun e w' => e = .returned (.bool r) ∧ Below w.heap.size w w' := hr ▸ DiskOk_any v0 v1 vl d w h hs
theorem ret_two {a b : ByteArray} {x y : Bool} (h : a = b) (h2 : x = y) : Ending.returned (.tuple #[.string a, .bool x]) = Ending.returned (.tuple #[.string b, .bool y]) := by rw [h, h2]

set_option maxHeartbeats 1000000 in
theorem DiskRead_any (v0 v1 vl : Value) (d : DiskM) (side at_ : Int) (w : World) (h : DiskR w v0 v1 vl d) (hs : DiskShort d) :
    Calls Tryz.prog 96 #[.agg #[v0, v1, vl], .int .i64 side, .int .i64 at_] w fun e w' => e = .returned (.tuple #[.string (readOut d side at_), .bool (decide (CanRead d side at_))]) ∧ Below w.heap.size w w' := by
  have hnot : ∀ (x : Bool) (w : World), (Op.unary .not (.bool x)).run Tryz.prog w = .ok (.bool (!x)) w := fun _ _ => rfl
  obtain ⟨_, A0, c0, rfl, _⟩ := h.r0
  have XD := Lib.hid (boxed_new h 40)
  have B0 := Lib.hid (Below.new (w := w) (.cells #[.slice A0 d.s0.length c0, v1, vl] 40))
  have HS := Lib.hid hs
  clear h hs
  have hzero : (⟨#[]⟩ : ByteArray).size ≤ maxLen := Nat.zero_le _
  by_cases hok : DiskOkM d
  · by_cases hth : There d.s0.length side at_ 0
    · have HC := Lib.hid (show CanRead d side at_ from ⟨hok, hth⟩)
      have HK := Lib.hid hok
      have HT := Lib.hid hth
      have hok' := Lib.hid (decide_eq_true hok)
      have hth' := Lib.hid (show decide (There d.s0.length side at_ (⟨#[]⟩ : ByteArray).size) = true from decide_eq_true hth)
      clear hok hth
      go_enter Tryz.func96, Tryz.ntmps96
      go_wp2_with fail
      refine (DiskOk_is _ _ _ d _ XD.out.reads HS.out true hok'.out).mono ?_
      rintro e w1 ⟨rfl, hb⟩
      have XD1 := Lib.hid (XD.out.below hb)
      have B1 := Lib.hid (B0.out.trans (hb.mono B0.out.size))
      clear hb XD B0
      obtain ⟨x0, x1, x2⟩ := XD1.out.box.three
      go_wp2_with fail
      refine (l2There_is v1 vl A0 _ c0 side at_ ⟨#[]⟩ _ hzero true hth'.out).mono ?_
      rintro e w2 ⟨rfl, hb⟩
      have XD2 := Lib.hid (XD1.out.below hb)
      have B2 := Lib.hid (B1.out.trans (hb.mono B1.out.size))
      clear hb XD1 B1 x0 x1 x2
      obtain ⟨x0, x1, x2⟩ := XD2.out.box.three
      go_wp2_with fail
      refine (l2Read_any _ _ _ d side at_ _ XD2.out.reads HS.out (by have := HT.out; unfold There at this; omega) (by have := HT.out; unfold There at this; omega) (by have := HT.out; unfold There at this; omega) HK.out.2.2.1).mono ?_
      rintro e w3 ⟨rfl, hb⟩
      have B3 := Lib.hid (B2.out.trans (hb.mono B2.out.size))
      clear hb XD2 B2 x0 x1 x2
      go_wp2
      go_ret2
      exact ⟨ret_two (show secM d side at_ = readOut d side at_ from (if_pos HC.out).symm) (decide_eq_true HC.out).symm, B3.out⟩
    · have HC := Lib.hid (show ¬ CanRead d side at_ from fun h => hth h.2)
      have hok' := Lib.hid (decide_eq_true hok)
      have hth' := Lib.hid (show decide (There d.s0.length side at_ (⟨#[]⟩ : ByteArray).size) = false from decide_eq_false hth)
      clear hok hth
      go_enter Tryz.func96, Tryz.ntmps96
      go_wp2_with fail
      refine (DiskOk_is _ _ _ d _ XD.out.reads HS.out true hok'.out).mono ?_
      rintro e w1 ⟨rfl, hb⟩
      have XD1 := Lib.hid (XD.out.below hb)
      have B1 := Lib.hid (B0.out.trans (hb.mono B0.out.size))
      clear hb XD B0
      obtain ⟨x0, x1, x2⟩ := XD1.out.box.three
      go_wp2_with fail
      refine (l2There_is v1 vl A0 _ c0 side at_ ⟨#[]⟩ _ hzero false hth'.out).mono ?_
      rintro e w2 ⟨rfl, hb⟩
      have B2 := Lib.hid (B1.out.trans (hb.mono B1.out.size))
      clear hb XD1 B1 x0 x1 x2
      go_wp2
      go_ret2
      exact ⟨ret_two (show (⟨#[]⟩ : ByteArray) = readOut d side at_ from (if_neg HC.out).symm) (decide_eq_false HC.out).symm, B2.out⟩
  · have HC := Lib.hid (show ¬ CanRead d side at_ from fun h => hok h.1)
    have hok' := Lib.hid (decide_eq_false hok)
    clear hok
    go_enter Tryz.func96, Tryz.ntmps96
    go_wp2_with fail
    refine (DiskOk_is _ _ _ d _ XD.out.reads HS.out false hok'.out).mono ?_
    rintro e w1 ⟨rfl, hb⟩
    have B1 := Lib.hid (B0.out.trans (hb.mono B0.out.size))
    clear hb XD B0
    go_wp2
    go_ret2
    exact ⟨ret_two (show (⟨#[]⟩ : ByteArray) = readOut d side at_ from (if_neg HC.out).symm) (decide_eq_false HC.out).symm, B1.out⟩
end Go.Proofs.YtojjenclcidnkaaGreatDoor

/-
  spec's l2Copy: a disk in new memory.
-/
set_option maxRecDepth 100000
namespace Go.Proofs.YtojjenclcidnkaaGreatDoor
open Go.ChangeShapes Go.WideShapes Go.ChangeAt Go.RowKit Go.Proofs.Palim

/-- What stays so while l2Copy's one region runs. -/
structure Reg (w : World) (v0 v1 vl : Value) (w' : World) : Prop where
  below : Below w.heap.size w w'
  box : Box w' w.heap.size [v0, v1, vl]
theorem Reg.drew {w w' : World} {v0 v1 vl : Value} (h : Reg w v0 v1 vl w') : Reg w v0 v1 vl w'.drew := ⟨h.below.drew, h.box⟩
theorem Reg.alloc {w w' : World} {v0 v1 vl : Value} (h : Reg w v0 v1 vl w') (o : Obj) : Reg w v0 v1 vl (w'.alloc o) := ⟨h.below.alloc h.below.size o, h.box.alloc o⟩
theorem Reg.setCell {w w' : World} {v0 v1 vl : Value} (h : Reg w v0 v1 vl w') (k : Nat) (u : Value) : Reg w v0 v1 vl (w'.setCell ⟨w.heap.size + 1, k, none⟩ u) := ⟨h.below.setCell (by simp) u, h.box.other (by simp) u⟩
theorem Reg.grown {w w' w2 : World} {v0 v1 vl : Value} {row : Option Nat} (h : Reg w v0 v1 vl w') (hg : w'.grownBy w2 row) (hr : ∀ g, row = some g → w.heap.size + 2 ≤ g) : Reg w v0 v1 vl w2 :=
  ⟨h.below.grown hg h.below.size (fun k e => by have := hr k e; omega), h.box.kept (hg.block _ h.box.lt (fun e => by have := hr _ e.symm; omega))⟩
theorem box_grown {w' w2 : World} {b B : Nat} {vs : List Value} {row : Option Nat} (h : Box w' b vs) (hg : w'.grownBy w2 row) (hr : ∀ g, row = some g → B ≤ g) (hb : b < B) : Box w2 b vs :=
  h.kept (hg.block _ h.lt (fun e => by have := hr _ e.symm; omega))
theorem Reg.all {w w' : World} {v0 v1 vl : Value} (h : Reg w v0 v1 vl w') : w'.cell? ⟨w.heap.size, 0, none⟩ = some v0 ∧ w'.cell? ⟨w.heap.size, 1, none⟩ = some v1 ∧ w'.cell? ⟨w.heap.size, 2, none⟩ = some vl ∧ Reg w v0 v1 vl w' := ⟨h.box.cell 0 rfl, h.box.cell 1 rfl, h.box.cell 2 rfl, h⟩

/-- Block g is empty, of elements e. -/
def At (w : World) (g e : Nat) : Prop := w.heap[g]? = some (.cells #[] e)
theorem At.drew {w : World} {g e : Nat} (h : At w g e) : At w.drew g e := h
theorem At.lt {w : World} {g e : Nat} (h : At w g e) : g < w.heap.size := (Array.getElem?_eq_some_iff.1 h).1
theorem At.alloc {w : World} {g e : Nat} (h : At w g e) (o : Obj) : At (w.alloc o) g e := (Below.heap_alloc w o g h.lt).trans h
theorem At.new {w : World} {g e : Nat} (h : w.heap.size = g) : At (w.alloc (.cells #[] e)) g e := by
  subst h
  show (w.heap.push _)[w.heap.size]? = _
  exact Array.getElem?_push_size
theorem At.grown {w w2 : World} {g g' e : Nat} (h : At w g e) (hk : ∀ k, k < w.heap.size → k ≠ g' → w2.heap[k]? = w.heap[k]?) (hne : g ≠ g') : At w2 g e := (hk g h.lt hne).trans h

theorem own_empty {w : World} {base e sz g : Nat} (h : At w g e) (hb : base ≤ g) : w.ownsRow base e sz (.slice (some ⟨g, 0, none⟩) 0 0) 0 [] := by
  simpa using own_new (sz := sz) (n := 0) h (by simp) (Nat.zero_le _) hb
theorem scs_one (ss : List ByteArray) : ∀ u ∈ scs ss, u.oneCell' = true := by
  intro u hu
  obtain ⟨s, _, rfl⟩ := List.mem_map.1 hu
  rfl
theorem lcs_one (ls : List LateM) : ∀ u ∈ lcs ls, u.oneCell' = true := by
  intro u hu
  obtain ⟨l, _, h⟩ := List.mem_flatMap.1 hu
  simp [lc] at h
  rcases h with rfl | rfl | rfl <;> rfl

/-- The block of an answer of append: the old one, or the one that is made now. -/
theorem loc {A : Option Addr} {n cap g s b : Nat} (ha : (Value.slice A n cap).ownBlock = (Value.slice (some ⟨g, 0, none⟩) 0 0).ownBlock ∨ (Value.slice A n cap).ownBlock = some s) (e : (Value.slice A n cap).ownBlock = some b) : b = g ∨ b = s := by
  rcases ha with h | h
  · left; rw [e] at h; simpa [Value.ownBlock] using h
  · right; rw [e] at h; simpa using h
theorem grown_from {w1 W w2 : World} {g : Nat} (hW : Below w1.heap.size w1 W) (hg : W.grownBy w2 (Value.slice (some ⟨g, 0, none⟩) 0 0).ownBlock) : (∀ b, b < w1.heap.size → b ≠ g → w2.heap[b]? = w1.heap[b]?) ∧ W.heap.size ≤ w2.heap.size ∧ w1.heap.size ≤ W.heap.size :=
  ⟨fun b hb hne => (hg.block b (Nat.lt_of_lt_of_le hb hW.size) (fun e => hne (by simpa [Value.ownBlock] using e))).trans (hW.block b hb), hg.size, hW.size⟩
theorem grown_kept {W w2 : World} {g : Nat} (hg : W.grownBy w2 (Value.slice (some ⟨g, 0, none⟩) 0 0).ownBlock) : ∀ k, k < W.heap.size → k ≠ g → w2.heap[k]? = W.heap[k]? :=
  fun k hk hne => hg.block k hk (fun e => hne (by simpa [Value.ownBlock] using e))

end Go.Proofs.YtojjenclcidnkaaGreatDoor

/-
  spec's DiskWrite.
-/
set_option maxRecDepth 100000
namespace Go.Proofs.YtojjenclcidnkaaGreatDoor
open Go.ChangeShapes Go.WideShapes Go.ChangeAt Go.RowKit Go.Proofs.Palim

def CanWrite (d : DiskM) (side at_ : Int) (text : ByteArray) : Prop := DiskOkM d ∧ There d.s0.length side at_ text.size ∧ d.late.length ≠ 600
instance (d : DiskM) (side at_ : Int) (text : ByteArray) : Decidable (CanWrite d side at_ text) := by unfold CanWrite; infer_instance
def writeM (d : DiskM) (side at_ : Int) (text : ByteArray) : DiskM :=
  if CanWrite d side at_ text then ⟨d.s0, d.s1, d.late ++ [⟨side, at_, text⟩]⟩ else if DiskOkM d then d else noDisk
def NewDisk2 (w : World) (d : DiskM) (b : Bool) (e : Ending) (w' : World) : Prop :=
  ∃ v0 v1 vl, e = .returned (.tuple #[.agg #[v0, v1, vl], .bool b]) ∧ DiskOwn w' w.heap.size v0 v1 vl d ∧ Below w.heap.size w w'

theorem DiskOwn.set3 {w : World} {base : Nat} {v0 v1 vl : Value} {d : DiskM} (h : DiskOwn w base v0 v1 vl d) {a b c : Addr} {x y z : Value} (ha : a.block < base) (hb : b.block < base) (hc : c.block < base) :
    DiskOwn (((w.setCell a x).setCell b y).setCell c z) base v0 v1 vl d :=
  h.kept fun k _ hk => by
    rw [Below.heap_setCell _ _ _ _ (by omega), Below.heap_setCell _ _ _ _ (by omega), Below.heap_setCell _ _ _ _ (by omega)]

end Go.Proofs.YtojjenclcidnkaaGreatDoor

/-
  slices.Clone at lists of strings and of late writes: the same cells in memory of the call's own.
-/
set_option maxRecDepth 100000
namespace Go.Proofs.Palim
open Go Go.RowKit
theorem wpList_append_fresh {P : Program} (w : World) {ops : Array Oper} {rest : List Oper} {o : Oper} {a : Act} {Q : Exit → Act → World → Prop} (hgd : o.guard = none) (s x : Operand) (t : TypeId)
    (ho : o.op = .call { callee := .builtin .append, args := #[s, x], argTypes := #[t, t] })
    (base : Nat) (e : TypeId) (i : TypeInfo) (z : Value) (size bytes : Nat) (ht : P.underlying t = some (.slice e)) (hi : P.info? e = some i) (hz : i.zero = some z)
    (hsize : i.size = size) (hby : i.bytes = bytes) (hzs : z.cells.size = size) (hsz : 0 < size)
    (v : Value) (n : Nat) (xs : List Value) (hs : a.eval s = v) (hown : w.ownsRow base e size v n xs)
    (u : Value) (m : Nat) (news : List Value) (hx : a.eval x = u) (hsl : Sl w size u m news) (h1 : ∀ u ∈ news, u.oneCell' = true)
    (h63 : n + m ≤ maxLen) (hbytes : (n + m) * bytes ≤ 140737488355328) (hbase : base ≤ w.heap.size)
    (h : ∀ A cap w', w'.ownsRow base e size (.slice A (n + m) cap) (n + m) (xs ++ news) → w.grownBy w' v.ownBlock → ((Value.slice A (n + m) cap).ownBlock = v.ownBlock ∨ (Value.slice A (n + m) cap).ownBlock = some w.heap.size) → wpList P ops Q rest (a.put o.dst (.slice A (n + m) cap)) w') : wpList P ops Q (o :: rest) a w :=
  wpList_plain hgd fun _ hK => wp_append_fresh w s x t ho base e i z size bytes ht hi hz hsize hby hzs hsz v n xs hs hown u m news hx hsl h1 h63 hbytes hbase fun A cap w' h2 h3 h4 => hK _ _ (h A cap w' h2 h3 h4)
end Go.Proofs.Palim
namespace Go.Proofs.YtojjenclcidnkaaGreatDoor
open Go.ChangeShapes Go.WideShapes Go.ChangeAt Go.RowKit Go.Proofs.Palim

/-- A slice of the call's own with the same cells. -/
def Cloned (w : World) (e sz n : Nat) (xs : List Value) (en : Ending) (w' : World) : Prop := ∃ A c, en = .returned (.slice A n c) ∧ w'.ownsRow w.heap.size e sz (.slice A n c) n xs ∧ Below w.heap.size w w'

theorem clone_done {w w1 : World} {e sz n m cap cp : Nat} {A : Option Addr} {xs : List Value} (hown : w1.ownsRow w.heap.size e sz (.slice A n cap) n xs) (hg : (w.alloc (.cells #[] m)).grownBy w1 (Value.slice (some ⟨w.heap.size, 0, none⟩) 0 cp).ownBlock) :
    w1.ownsRow w.heap.size e sz (.slice A n cap) n xs ∧ Below w.heap.size w w1 := by
  exact ⟨hown, ((Below.refl _ w).alloc (Nat.le_refl _) _).grown hg (by simp) (by intro k hk; simp [Value.ownBlock] at hk; omega)⟩

end Go.Proofs.YtojjenclcidnkaaGreatDoor

/-
  impl's diskCopy and disk: a disk in memory of the call's own, and the disk that a draft has become.
-/
set_option maxRecDepth 100000
namespace Go.Proofs.YtojjenclcidnkaaGreatDoor
open Go.ChangeShapes Go.WideShapes Go.ChangeAt Go.RowKit Go.Proofs.Palim

theorem apart_of {w : World} {B e sz n : Nat} {v u : Value} {xs : List Value} (hv : Low B v) (hu : w.ownsRow B e sz u n xs) : Apart v u := fun g e e' => by
  have h1 := hv g e
  have h2 := (hu.lt g e').1
  omega

end Go.Proofs.YtojjenclcidnkaaGreatDoor
