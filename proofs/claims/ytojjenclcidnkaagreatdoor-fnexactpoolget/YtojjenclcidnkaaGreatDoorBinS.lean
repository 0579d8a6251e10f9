/-
  impl: where a set of a name is (slices.BinarySearchFunc over a core's sets).
-/
import Derived.Test.YtojjenclcidnkaaGreatDoorFindM
import Derived.Test.YtojjenclcidnkaaGreatDoorBase
import Derived.Test.YtojjenclcidnkaaGreatDoorShelf
set_option maxRecDepth 100000
namespace Go.Proofs.YtojjenclcidnkaaGreatDoor
open Go.ChangeShapes Go.WideShapes Go.ChangeAt Go.RowKit Go.Proofs.Palim

theorem find1_any (x : CSetM) (s : ByteArray) (w : World) :
    Calls Tryz.prog 64 #[.agg (cc x).toArray, .string s] w fun e w' => e = .returned (.int .i64 (cmpT x.name s)) ∧ Below w.heap.size w w' := by
  have X := Lib.hid (box_new w (cc x).toArray 70)
  have B := Lib.hid (Below.new1 (w := w) (.cells (cc x).toArray 70))
  go_enter Tryz.func64, Tryz.ntmps64
  go_upto_region 1 with fail
  generalize w.alloc (.cells (cc x).toArray 70) = W at X B ⊢
  obtain ⟨n0, -⟩ := ccBox (x := x) X.out
  go_wp2_with fail
  refine (Tryz.strings_Compare x.name s _).mono ?_
  rintro e w1 ⟨rfl, rfl⟩
  go_wp2
  go_ret
  exact ⟨rfl, B.out⟩
set_option maxHeartbeats 2000000 in
theorem search_any (v : Value) (ls : List CSetM) (s : ByteArray) (w : World) (h : Sl w 31 v ls.length (ccs ls)) (hv : Low w.heap.size v) (hl : ls.length ≤ 1048576) (ha : Asc (namesM ls)) :
    Calls Tryz.prog 63 #[v, .string s, .func (.func 64) #[] #[]] w fun e w' => e = .returned (.tuple #[.int .i64 (atM (namesM ls) s : Int), .bool (thereM (namesM ls) s)]) ∧ Below w.heap.size w w' := by
  obtain ⟨n, HL⟩ : ∃ n, Hid (ls.length = n) := ⟨_, Lib.hid rfl⟩
  rw [HL.out] at h hl
  have HS := Lib.hid h
  have HV := Lib.hid hv
  have HA := Lib.hid ha
  obtain ⟨_, A, c, rfl, _, hcm, _⟩ := h
  unfold maxLen at hcm
  clear hv ha
  go_enter Tryz.func63, Tryz.ntmps63
  go_wp2
  go_loopw [9, 10] (fun i j wr => ∃ lo hi : Nat, i = .int .i64 lo ∧ j = .int .i64 hi ∧ lo ≤ hi ∧ hi ≤ n ∧ Hid (Below w.heap.size w wr) ∧ Hid (∀ (j : Nat) (h : j < ls.length), j < lo → cmpT ls[j].name s < 0) ∧ Hid (∀ (j : Nat) (h : j < ls.length), hi ≤ j → 0 ≤ cmpT ls[j].name s)) (fun i j _ => (RowKit.intOf j).toNat - (RowKit.intOf i).toNat)
  case atStart => exact ⟨0, n, rfl, rfl, Nat.zero_le _, Nat.le_refl _, Lib.hid (Below.refl _ _), Lib.hid (fun _ _ h => absurd h (Nat.not_lt_zero _)), Lib.hid (fun j h h2 => by have := HL.out; omega)⟩
  case round =>
    obtain ⟨lo, hi, rfl, rfl, hlh, hin, HB, H1, H2⟩ := hrel
    by_cases hlt : lo < hi
    · have hm1 : (lo + hi) / 2 < n := by omega
      obtain ⟨m, hm⟩ : ∃ m, (lo + hi) / 2 = m := ⟨_, rfl⟩
      rw [hm] at hm1
      have hlm : lo ≤ m ∧ m < hi := by omega
      have hl0 : m < ls.length := by rw [HL.out]; exact hm1
      have hsr := HS.out.below HB.out HV.out
      obtain ⟨b, off, c', hvv, _, _, hcell⟩ := hsr.form (by omega)
      injection hvv with e1 e2 e3
      subst e1 e3
      clear e2
      have HRD := Lib.hid (cset_read hcell m hl0)
      obtain ⟨x, HX⟩ : ∃ x, Hid (ls[m] = x) := ⟨_, Lib.hid rfl⟩
      rw [HX.out] at HRD
      have hmi : ((lo : Int) + (hi : Int)) / 2 = (m : Int) := by omega
      have hlti : (lo : Int) < (hi : Int) := by omega
      have hmn : (m : Int) < (n : Int) := by omega
      clear hcell hsr
      obtain ⟨cm, HCM⟩ : ∃ cm, Hid (cmpT x.name s = cm) := ⟨_, Lib.hid rfl⟩
      by_cases hc0 : cm < 0
      · go_wp2_with (first | (refine wpList_load_cs rfl _ rfl aggSet rfl (cc x) (cc_length x) HRD.out ?_))
        refine (find1_any x s _).mono ?_
        rintro e w1 ⟨rfl, hb⟩
        rw [HCM.out]
        have HB1 := Lib.hid (HB.out.trans (hb.mono HB.out.size))
        have HN1 := Lib.hid (show ∀ (j : Nat) (h : j < ls.length), j < m + 1 → cmpT ls[j].name s < 0 from fun j h hj => asc_mono HA.out hl0 (by omega) (by rw [HX.out, HCM.out]; exact hc0))
        clear hb HB H1
        go_wp2
        go_roundw
        case rel => exact ⟨m + 1, hi, by go_num, rfl, by omega, hin, HB1, HN1, H2⟩
        case measure => simp [RowKit.intOf]; omega
      · have HC1 := Lib.hid hc0
        go_wp2_with (first | (refine wpList_load_cs rfl _ rfl aggSet rfl (cc x) (cc_length x) HRD.out ?_))
        refine (find1_any x s _).mono ?_
        rintro e w1 ⟨rfl, hb⟩
        rw [HCM.out]
        have HB1 := Lib.hid (HB.out.trans (hb.mono HB.out.size))
        have HN2 := Lib.hid (show ∀ (j : Nat) (h : j < ls.length), m ≤ j → 0 ≤ cmpT ls[j].name s from fun j h hj => Int.not_lt.1 fun hl => by
          have h1 := asc_mono HA.out h hj hl
          rw [HX.out, HCM.out] at h1
          have h2 := HC1.out
          omega)
        clear hb HB H2
        go_wp2
        go_roundw
        case rel => exact ⟨lo, m, rfl, by go_num, by omega, by omega, HB1, H1, HN2⟩
        case measure => simp [RowKit.intOf]; omega
    · obtain rfl : hi = lo := by omega
      have HAT := Lib.hid (find_end (ls := ls) (s := s) (k := hi) (by rw [HL.out]; exact hin) H1.out (fun j h hj => by have := H2.out j h hj; omega))
      have hlti : ¬ (hi : Int) < (hi : Int) := by omega
      by_cases hn : hi < n
      · have hl0 : hi < ls.length := by rw [HL.out]; exact hn
        have hsr := HS.out.below HB.out HV.out
        obtain ⟨b, off, c', hvv, _, _, hcell⟩ := hsr.form (by omega)
        injection hvv with e1 e2 e3
        subst e1 e3
        clear e2
        have HRD := Lib.hid (cset_read hcell hi hl0)
        have HTH := Lib.hid (there_some HAT.out hl0)
        obtain ⟨x, HX⟩ : ∃ x, Hid (ls[hi] = x) := ⟨_, Lib.hid rfl⟩
        rw [HX.out] at HRD HTH
        obtain ⟨cm, HCM⟩ : ∃ cm, Hid (cmpT x.name s = cm) := ⟨_, Lib.hid rfl⟩
        rw [HCM.out] at HTH
        have hmn : (hi : Int) < (n : Int) := by omega
        clear hcell hsr
        by_cases hc0 : cm = 0
        · go_wp2_with (refine wpList_wanted (by rfl) fun _ hK => wp_load_cs _ rfl aggSet rfl (cc x) (cc_length x) HRD.out (hK _ _ ?_))
          refine (find1_any x s _).mono ?_
          rintro e w1 ⟨rfl, hb⟩
          rw [HCM.out]
          have HB1 := Lib.hid (HB.out.trans (hb.mono HB.out.size))
          clear hb HB H1 H2
          go_wp2
          go_ret2
          exact ⟨ret_at HAT.out.symm (by rw [HTH.out, decide_eq_true hc0]), HB1.out⟩
        · have hcz : (cm == 0) = false := by simpa using hc0
          go_wp2_with (refine wpList_wanted (by rfl) fun _ hK => wp_load_cs _ rfl aggSet rfl (cc x) (cc_length x) HRD.out (hK _ _ ?_))
          refine (find1_any x s _).mono ?_
          rintro e w1 ⟨rfl, hb⟩
          rw [HCM.out]
          have HB1 := Lib.hid (HB.out.trans (hb.mono HB.out.size))
          clear hb HB H1 H2
          go_wp2
          go_ret2
          exact ⟨ret_at HAT.out.symm (by rw [HTH.out, decide_eq_false hc0]), HB1.out⟩
      · have HTH := Lib.hid (there_none (ls := ls) HAT.out (by rw [HL.out]; exact hn))
        have hmn : ¬ (hi : Int) < (n : Int) := by omega
        go_wp2
        go_ret2
        exact ⟨ret_at HAT.out.symm HTH.out.symm, HB.out⟩
theorem poolFind_is (v : Value) (ls : List CSetM) (s : ByteArray) (K : Nat) (th : Bool) (w : World) (h : Sl w 31 v ls.length (ccs ls)) (hv : Low w.heap.size v) (hl : ls.length ≤ 1048576) (ha : Asc (namesM ls)) (hK : atM (namesM ls) s = K) (ht : thereM (namesM ls) s = th) :
    Calls Tryz.prog 24 #[v, .string s] w fun e w' => e = .returned (.tuple #[.int .i64 (K : Int), .bool th]) ∧ Below w.heap.size w w' := by
  subst hK ht
  obtain ⟨_, A, c, rfl, _⟩ := id h
  have H := Lib.hid h
  clear h
  go_enter Tryz.func24, Tryz.ntmps24
  go_wp2_with fail
  refine (search_any _ ls s _ H.out hv hl ha).mono ?_
  rintro e w1 ⟨rfl, hb⟩
  have HB := Lib.hid hb
  clear hb
  go_wp2
  go_ret2
  exact ⟨rfl, HB.out⟩
end Go.Proofs.YtojjenclcidnkaaGreatDoor
