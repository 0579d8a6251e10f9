/-
  Which disks are valid: spec's DiskOk.
-/
import Derived.Test.YtojjenclcidnkaaGreatDoorBase
set_option maxRecDepth 100000
namespace Go.Proofs.YtojjenclcidnkaaGreatDoor
open Go.ChangeShapes Go.WideShapes Go.ChangeAt Go.RowKit Go.Proofs.Palim

/-- There is such a sector, and the text fits. -/
def There (n : Nat) (side at_ : Int) (size : Nat) : Prop := 0 ≤ side ∧ side ≤ 1 ∧ 0 ≤ at_ ∧ at_ < n ∧ size ≤ 420
instance (n : Nat) (side at_ : Int) (size : Nat) : Decidable (There n side at_ size) := by unfold There; infer_instance

theorem ret_bool {a b : Bool} (h : a = b) : Ending.returned (.bool a) = Ending.returned (.bool b) := by rw [h]

theorem dec_eq {a b : Bool} (h : a = true ↔ b = true) : a = b := by cases a <;> cases b <;> simp_all

set_option maxHeartbeats 400000 in
theorem l2There_any (v1 vl : Value) (A : Option Addr) (n c : Nat) (side at_ : Int) (s : ByteArray) (w : World) (hs : s.size ≤ maxLen) :
    Calls Tryz.prog 91 #[.agg #[.slice A n c, v1, vl], .int .i64 side, .int .i64 at_, .string s] w fun e w' => e = .returned (.bool (decide (There n side at_ s.size))) ∧ Below w.heap.size w w' := by
  unfold maxLen at hs
  go_enter Tryz.func91, Tryz.ntmps91
  go_wp2
  all_goals
    go_ret
    exact ⟨ret_bool (dec_eq (by simp only [decide_eq_true_eq, Bool.false_eq_true, false_iff]; unfold There; omega)), (Below.refl _ _).alloc (Nat.le_refl _) _⟩

theorem l2There_is (v1 vl : Value) (A : Option Addr) (n c : Nat) (side at_ : Int) (s : ByteArray) (w : World) (hs : s.size ≤ maxLen) (r : Bool) (hr : decide (There n side at_ s.size) = r) :
    Calls Tryz.prog 91 #[.agg #[.slice A n c, v1, vl], .int .i64 side, .int .i64 at_, .string s] w fun e w' => e = .returned (.bool r) ∧ Below w.heap.size w w' := hr ▸ l2There_any v1 vl A n c side at_ s w hs

def DiskOkM (d : DiskM) : Prop := 1 ≤ d.s0.length ∧ d.s0.length ≤ 120 ∧ d.s1.length = d.s0.length ∧ d.late.length ≤ 600 ∧ (∀ s ∈ d.s0, s.size ≤ 420) ∧ (∀ s ∈ d.s1, s.size ≤ 420) ∧ ∀ x ∈ d.late, There d.s0.length x.side x.at_ x.text.size
instance (d : DiskM) : Decidable (DiskOkM d) := by unfold DiskOkM; infer_instance

set_option maxHeartbeats 2000000 in
theorem DiskOk_any (v0 v1 vl : Value) (d : DiskM) (w : World) (h : DiskR w v0 v1 vl d) (hs : DiskShort d) :
    Calls Tryz.prog 51 #[.agg #[v0, v1, vl]] w fun e w' => e = .returned (.bool (decide (DiskOkM d))) ∧ Below w.heap.size w w' := by
  obtain ⟨_, A0, c0, rfl, _⟩ := h.r0
  obtain ⟨_, A1, c1, rfl, _⟩ := h.r1
  obtain ⟨_, Al, cl, rfl, _⟩ := h.rl
  have hn0 := hs.n0
  have hn1 := hs.n1
  have hnl := hs.nl
  have HD := Lib.hid h
  have HS := Lib.hid hs
  clear h hs
  obtain ⟨n0, H0⟩ : ∃ n, Hid (d.s0.length = n) := ⟨_, Lib.hid rfl⟩
  obtain ⟨n1, H1⟩ : ∃ n, Hid (d.s1.length = n) := ⟨_, Lib.hid rfl⟩
  obtain ⟨nl, HL⟩ : ∃ n, Hid (d.late.length = n) := ⟨_, Lib.hid rfl⟩
  rw [H0.out] at hn0 HD ⊢
  rw [H1.out] at hn1 HD ⊢
  rw [HL.out] at hnl HD ⊢
  by_cases hok : 1 ≤ n0 ∧ n0 ≤ 120 ∧ n1 = n0 ∧ nl ≤ 600
  · obtain ⟨k1, k2, k3, k4⟩ := hok
    subst k3
    obtain ⟨b0, o0, c0', e0, hc0, hm0, hcell0⟩ := HD.out.r0.form (by have := H0.out; omega)
    obtain ⟨b1, o1, c1', e1, hc1, hm1, hcell1⟩ := HD.out.r1.form (by have := H1.out; omega)
    injection e0 with e0 e0' e0''
    injection e1 with e1 e1' e1''
    subst e0 e1 e0'' e1''
    have HC0 := Lib.hid hcell0
    have HC1 := Lib.hid hcell1
    rw [H0.out] at hc0
    rw [H1.out] at hc1
    have hbl0 : b0 < w.heap.size := HD.out.l0 b0 rfl
    have hbl1 : b1 < w.heap.size := HD.out.l1 b1 rfl
    unfold maxLen at hm0 hm1
    clear hcell0 hcell1 e0' e1'
    go_enter Tryz.func51, Tryz.ntmps51
    go_wp2
    go_loopw [4] (fun i wr => ∃ k : Nat, k ≤ n1 ∧ i = .int .i64 (k : Int) ∧ wr = w.alloc (.cells #[.slice (some ⟨b0, o0, none⟩) n1 c0, .slice (some ⟨b1, o1, none⟩) n1 c1, .slice Al nl cl] 40) ∧ Hid (∀ (j : Nat) (h0 : j < d.s0.length) (h1 : j < d.s1.length), j < k → d.s0[j].size ≤ 420 ∧ d.s1[j].size ≤ 420)) (fun i _ => n1 - (intOf i).toNat)
    case atStart => exact ⟨0, Nat.zero_le _, rfl, rfl, Lib.hid (fun j _ _ h => absurd h (Nat.not_lt_zero _))⟩
    case round =>
      obtain ⟨k, hk, rfl, rfl, HK⟩ := hrel
      by_cases hlt : k < n1
      · have hl0 : k < d.s0.length := by rw [H0.out]; exact hlt
        have hl1 : k < d.s1.length := by rw [H1.out]; exact hlt
        have g0 := HC0.out k _ (scs_at d.s0 k hl0)
        have g1 := HC1.out k _ (scs_at d.s1 k hl1)
        have z0 := HS.out.z0 _ (List.getElem_mem hl0)
        have z1 := HS.out.z1 _ (List.getElem_mem hl1)
        have HK1 := Lib.hid (show (d.s0[k].size ≤ 420 ∧ d.s1[k].size ≤ 420) → ∀ (j : Nat) (h0 : j < d.s0.length) (h1 : j < d.s1.length), j < k + 1 → d.s0[j].size ≤ 420 ∧ d.s1[j].size ≤ 420 from fun hh j h0 h1 hj => by
          rcases Nat.lt_succ_iff_lt_or_eq.1 hj with h | rfl
          · exact HK.out j h0 h1 h
          · exact hh)
        have HN := Lib.hid (show ¬ (d.s0[k].size ≤ 420 ∧ d.s1[k].size ≤ 420) → ¬ DiskOkM d from fun hh q => hh ⟨q.2.2.2.2.1 _ (List.getElem_mem hl0), q.2.2.2.2.2.1 _ (List.getElem_mem hl1)⟩)
        generalize d.s0[k] = x0 at g0 z0 HK1 HN
        generalize d.s1[k] = x1 at g1 z1 HK1 HN
        clear hl0 hl1
        by_cases hx : x0.size ≤ 420 ∧ x1.size ≤ 420
        · have HK2 := Lib.hid (HK1.out hx)
          obtain ⟨hx0, hx1⟩ := hx
          clear HK HK1 HN
          go_wp2
          go_roundw
          case rel => exact ⟨k + 1, by omega, by go_num, by first | trivial | rfl, HK2⟩
          case measure => simp [intOf]; omega
        · have HF := Lib.hid (decide_eq_false (HN.out hx)).symm
          have hx' : 420 < x0.size ∨ (x0.size ≤ 420 ∧ 420 < x1.size) := by omega
          clear HK HK1 HN hx
          rcases hx' with hx0 | ⟨hx0, hx1⟩
          all_goals
            go_wp2
            go_ret
            exact ⟨ret_bool HF.out, (Below.refl _ _).alloc (Nat.le_refl _) _⟩
      · have HK2 := Lib.hid (show ∀ (j : Nat) (h0 : j < d.s0.length) (h1 : j < d.s1.length), d.s0[j].size ≤ 420 ∧ d.s1[j].size ≤ 420 from fun j h0 h1 => HK.out j h0 h1 (by have := H0.out; omega))
        clear HK
        go_wp2
        go_loopw [5] (fun i wr => ∃ k : Nat, k ≤ nl ∧ i = .int .i64 (k : Int) ∧ Hid (Box wr w.heap.size [.slice (some ⟨b0, o0, none⟩) n1 c0, .slice (some ⟨b1, o1, none⟩) n1 c1, .slice Al nl cl]) ∧ w.heap.size + 1 ≤ wr.heap.size ∧ Hid (Below w.heap.size w wr) ∧ Hid (∀ (j : Nat) (h : j < d.late.length), j < k → There n1 d.late[j].side d.late[j].at_ d.late[j].text.size)) (fun i _ => nl - (intOf i).toNat)
        case atStart => exact ⟨0, Nat.zero_le _, rfl, Lib.hid (box_new _ _ _), by simp, Lib.hid ((Below.refl _ _).alloc (Nat.le_refl _) _), Lib.hid (fun j _ h => absurd h (Nat.not_lt_zero _))⟩
        case round =>
          clear hk hlt
          obtain ⟨k, hk, rfl, HX, hsz, HB, HK⟩ := hrel
          obtain ⟨x0, x1, x2⟩ := HX.out.three
          by_cases hlt : k < nl
          · have hll : k < d.late.length := by rw [HL.out]; exact hlt
            obtain ⟨bl, ol, cl', el, hcl, hml, hcell⟩ := HD.out.rl.form (by have := HL.out; omega)
            injection el with el el' el''
            subst el el''
            rw [HL.out] at hcl
            unfold maxLen at hml
            have hbll : bl < w.heap.size := HD.out.ll bl rfl
            have hrd := late_read (fun j u hu => (HB.out.cell hbll).trans (hcell j u hu)) k hll
            have hz : d.late[k].text.size ≤ maxLen := by have := HS.out.zl _ (List.getElem_mem hll); unfold maxLen; omega
            have HN := Lib.hid (show ¬ There n1 d.late[k].side d.late[k].at_ d.late[k].text.size → ¬ DiskOkM d from fun hh q => hh (by have := q.2.2.2.2.2.2 _ (List.getElem_mem hll); rwa [H0.out] at this))
            have HK1 := Lib.hid (show There n1 d.late[k].side d.late[k].at_ d.late[k].text.size → ∀ (j : Nat) (h : j < d.late.length), j < k + 1 → There n1 d.late[j].side d.late[j].at_ d.late[j].text.size from fun hh j h0 hj => by
              rcases Nat.lt_succ_iff_lt_or_eq.1 hj with h | rfl
              · exact HK.out j h0 h
              · exact hh)
            generalize d.late[k] = x at hrd HN HK1 hz
            obtain ⟨h1, h2, h3⟩ := hrd
            have hj1 : (k : Int) < (nl : Int) := by omega
            clear hcell el' hll
            by_cases hth : There n1 x.side x.at_ x.text.size
            · have HK2 := Lib.hid (HK1.out hth)
              replace hth := decide_eq_true hth
              clear HK HK1 HN
              go_wp2_with fail
              go_region_held3 (fun w' => w'.cell? ⟨w.heap.size, 0, none⟩ = some (.slice (some ⟨b0, o0, none⟩) n1 c0) ∧ w'.cell? ⟨w.heap.size, 1, none⟩ = some (.slice (some ⟨b1, o1, none⟩) n1 c1) ∧ w'.cell? ⟨w.heap.size, 2, none⟩ = some (.slice (some ⟨bl, ol, none⟩) nl cl) ∧ w'.cell? ⟨bl, ol + k * 3, none⟩ = some (.int .i64 x.side) ∧ w'.cell? ⟨bl, ol + k * 3 + 1, none⟩ = some (.int .i64 x.at_) ∧ w'.cell? ⟨bl, ol + k * 3 + 2, none⟩ = some (.string x.text))
                (first
                  | go_keep
                  | (go_split_ands
                     refine ⟨?_, ?_, ?_, ?_, ?_, ?_⟩
                     all_goals (rw [hb2.cell (by simp <;> omega)]; assumption)))
                ((go_at_call 91; ((with_reducible refine (l2There_is _ _ _ n1 c0 x.side x.at_ x.text _ hz true hth).mono ?_); rintro e w2 ⟨rfl, hb2⟩)))
              all_goals
                have HB2 := Lib.hid (HB.out.drew.trans (hb2.mono (by simp; omega)))
                have HX2 := Lib.hid (HX.out.drew.below hb2 (by simp; omega))
                have hsz2 : w.heap.size + 1 ≤ w2.heap.size := Nat.le_trans hsz hb2.size
                clear HB hb2 h1 h2 h3 HX x0 x1 x2 hth hz
                go_wp2
                go_roundw
                case rel => exact ⟨k + 1, by omega, by go_num, HX2, hsz2, HB2, HK2⟩
                case measure => simp [intOf]; omega
            · have HF := Lib.hid (decide_eq_false (HN.out hth)).symm
              replace hth := decide_eq_false hth
              clear HK HK1 HN
              go_wp2_with fail
              go_region_held3 (fun w' => w'.cell? ⟨w.heap.size, 0, none⟩ = some (.slice (some ⟨b0, o0, none⟩) n1 c0) ∧ w'.cell? ⟨w.heap.size, 1, none⟩ = some (.slice (some ⟨b1, o1, none⟩) n1 c1) ∧ w'.cell? ⟨w.heap.size, 2, none⟩ = some (.slice (some ⟨bl, ol, none⟩) nl cl) ∧ w'.cell? ⟨bl, ol + k * 3, none⟩ = some (.int .i64 x.side) ∧ w'.cell? ⟨bl, ol + k * 3 + 1, none⟩ = some (.int .i64 x.at_) ∧ w'.cell? ⟨bl, ol + k * 3 + 2, none⟩ = some (.string x.text))
                (first
                  | go_keep
                  | (go_split_ands
                     refine ⟨?_, ?_, ?_, ?_, ?_, ?_⟩
                     all_goals (rw [hb2.cell (by simp <;> omega)]; assumption)))
                ((go_at_call 91; ((with_reducible refine (l2There_is _ _ _ n1 c0 x.side x.at_ x.text _ hz false hth).mono ?_); rintro e w2 ⟨rfl, hb2⟩)))
              all_goals
                have HB2 := Lib.hid (HB.out.drew.trans (hb2.mono (by simp; omega)))
                clear HB hb2 h1 h2 h3 HX x0 x1 x2 hth hz
                go_wp2
                go_ret
                exact ⟨ret_bool HF.out, HB2.out⟩
          · have HT := Lib.hid (show DiskOkM d from ⟨by have := H0.out; omega, by have := H0.out; omega, by have := H0.out; have := H1.out; omega, by have := HL.out; omega,
              fun s hs => by
                obtain ⟨i, hi, rfl⟩ := List.mem_iff_getElem.1 hs
                exact (HK2.out i hi (by have := H0.out; have := H1.out; omega)).1,
              fun s hs => by
                obtain ⟨i, hi, rfl⟩ := List.mem_iff_getElem.1 hs
                exact (HK2.out i (by have := H0.out; have := H1.out; omega) hi).2,
              fun s hs => by
                obtain ⟨i, hi, rfl⟩ := List.mem_iff_getElem.1 hs
                rw [H0.out]
                exact HK.out i hi (by have := HL.out; omega)⟩)
            clear HK
            go_wp2
            go_ret
            exact ⟨ret_bool (decide_eq_true HT.out).symm, HB.out⟩
  · have HN := Lib.hid (show ¬ DiskOkM d from fun q => hok ⟨by have := q.1; have := H0.out; omega, by have := q.2.1; have := H0.out; omega, by have := q.2.2.1; have := H0.out; have := H1.out; omega, by have := q.2.2.2.1; have := HL.out; omega⟩)
    rw [decide_eq_false HN.out]
    have ho : n0 < 1 ∨ (1 ≤ n0 ∧ 120 < n0) ∨ (1 ≤ n0 ∧ n0 ≤ 120 ∧ n1 ≠ n0) ∨ (1 ≤ n0 ∧ n0 ≤ 120 ∧ n1 = n0 ∧ 600 < nl) := by omega
    clear hok
    rcases ho with k1 | ⟨k1, k2⟩ | ⟨k1, k2, k3⟩ | ⟨k1, k2, k3, k4⟩
    all_goals
      go_enter Tryz.func51, Tryz.ntmps51
      go_wp2
      go_ret
      exact ⟨rfl, (Below.refl _ _).alloc (Nat.le_refl _) _⟩
end Go.Proofs.YtojjenclcidnkaaGreatDoor
