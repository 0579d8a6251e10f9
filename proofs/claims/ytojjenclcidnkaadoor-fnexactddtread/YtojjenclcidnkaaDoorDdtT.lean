/-
  The table's entries written: DdtText, spec's and impl's.
-/
import Derived.Test.YtojjenclcidnkaaDoorDdtOk
import Derived.Test.YtojjenclcidnkaaDoorPtrT
import Derived.Test.YtojjenclcidnkaaDoorJoinS
import Derived.Deep.RegionHeld3
set_option maxRecDepth 100000
namespace Go.Proofs.YtojjenclcidnkaaDoor
open Go.ChangeShapes Go.WideShapes Go.ChangeAt Go.RowKit Go.Proofs.Palim

/-- An entry's text. -/
def entB (x : EntM) : ByteArray := ⟨(trip x.sum x.at_ x.count).toArray⟩
noncomputable def ddtText (ls : List EntM) : ByteArray := if DdtOkM ls then joinB (ls.map entB) ⟨#[32]⟩ else ⟨#[]⟩
theorem entB_eq (x : EntM) : (⟨(Lib.itoa x.sum).toArray⟩ : ByteArray) ++ (⟨#[46]⟩ : ByteArray) ++ (⟨(Lib.itoa x.at_).toArray⟩ : ByteArray) ++ (⟨#[46]⟩ : ByteArray) ++ (⟨(Lib.itoa x.count).toArray⟩ : ByteArray) = entB x := by
  rw [ptr_app]; rfl
theorem entB_bd (x : EntM) (h : EntOkM x) : (entB x).size ≤ 65 := by
  obtain ⟨h1, h2, h3, h4, h5, h6⟩ := h
  have l1 := Lib.itoa_length_le x.sum (by omega) (by omega)
  have l2 := Lib.itoa_length_le x.at_ (by omega) (by omega)
  have l3 := Lib.itoa_length_le x.count (by omega) (by omega)
  show (trip x.sum x.at_ x.count).toArray.size ≤ 65
  simp [trip]
  omega

set_option maxHeartbeats 4000000 in
theorem SpecDdtText_any (v : Value) (ls : List EntM) (w : World) (h : Sl w 3 v ls.length (ecs ls)) (hv : Low w.heap.size v) :
    Calls Tryd.prog 12 #[v] w fun e w' => e = .returned (.string (ddtText ls)) ∧ Below w.heap.size w w' := by
  obtain ⟨R, HR⟩ : ∃ R, Hid (ddtText ls = R) := ⟨_, Lib.hid rfl⟩
  rw [HR.out]
  have HV := Lib.hid hv
  have HD := Lib.hid h
  obtain ⟨n, HL⟩ : ∃ n, Hid (ls.length = n) := ⟨_, Lib.hid rfl⟩
  obtain ⟨_, A, c, rfl, hnc, hcm, _⟩ := h
  unfold maxLen at hcm
  clear hv
  rw [HL.out] at HD HV hnc ⊢
  by_cases hok : DdtOkM ls
  case neg =>
    have HF := Lib.hid (decide_eq_false hok)
    have HZ := Lib.hid (show (⟨#[]⟩ : ByteArray) = R from by rw [← HR.out]; unfold ddtText; rw [if_neg hok])
    clear hok
    go_enter Tryd.func12, Tryd.ntmps12
    go_wp2
    go_loopw [3, 4] (fun o i wr => o = .string ⟨#[]⟩ ∧ i = .int .i64 0 ∧ wr = w) (fun _ _ _ => 0)
    case atStart => exact ⟨rfl, rfl, rfl⟩
    case round =>
      obtain ⟨rfl, rfl, rfl⟩ := hrel
      go_wp2_with fail
      refine (SpecDdtOk_is _ ls false _ (by rw [HL.out]; exact HD.out) HV.out HF.out).mono ?_
      rintro e w1 ⟨rfl, hb⟩
      go_wp2
      go_ret
      exact ⟨ret_s HZ.out, hb⟩
  case pos =>
    have HT := Lib.hid (decide_eq_true hok)
    have HZ := Lib.hid (show joinB (ls.map entB) ⟨#[32]⟩ = R from by rw [← HR.out]; unfold ddtText; rw [if_pos hok])
    have HG := Lib.hid (show ∀ (j : Nat) (h : j < ls.length), EntOkM ls[j] from fun j h => (hok.2 j h h).1)
    have hn48 : n ≤ 48 := by rw [← HL.out]; exact hok.1
    clear hok HR
    go_enter Tryd.func12, Tryd.ntmps12
    go_wp2
    go_loopw [3, 4] (fun s i wr => ∃ (k : Nat) (o : ByteArray), k ≤ n ∧ s = .string o ∧ i = .int .i64 k ∧ Hid (Below w.heap.size w wr) ∧ Hid (o = joinB ((ls.take k).map entB) ⟨#[32]⟩) ∧ Hid (o.size ≤ k * 66)) (fun _ i _ => n - (intOf i).toNat)
    case atStart => exact ⟨0, ⟨#[]⟩, Nat.zero_le _, rfl, rfl, Lib.hid (Below.refl _ _), Lib.hid rfl, Lib.hid (Nat.zero_le _)⟩
    case round =>
      obtain ⟨k, o, hk, rfl, rfl, HB, HO, HZ0⟩ := hrel
      go_wp2_with fail
      refine (SpecDdtOk_is _ ls true _ (by rw [HL.out]; exact HD.out.below HB.out HV.out) (fun b e => Nat.lt_of_lt_of_le (HV.out b e) HB.out.size) HT.out).mono ?_
      rintro e w1 ⟨rfl, hb⟩
      have HB1 := Lib.hid (HB.out.trans (hb.mono HB.out.size))
      clear hb HB
      by_cases hlt : k < n
      case pos =>
        have hl0 : k < ls.length := by rw [HL.out]; exact hlt
        obtain ⟨b, off, c', hv', _, _, hcell⟩ := (HD.out.below HB1.out HV.out).form (by omega)
        injection hv' with e1 e2 e3
        subst e1 e3
        clear e2
        have hbl : b < w1.heap.size := Nat.lt_of_lt_of_le (HV.out b rfl) HB1.out.size
        obtain ⟨h1, h2, h3⟩ := ent_read hcell k hl0
        have hk1 : (k : Int) < (n : Int) := by omega
        have HTK := Lib.hid (show ls.take (k + 1) = ls.take k ++ [ls[k]] from List.take_succ_eq_append_getElem hl0)
        have HEN := Lib.hid (entB_eq ls[k])
        obtain ⟨g1, g2, g3, g4, g5, g6⟩ := HG.out k hl0
        clear hcell
        generalize ls[k] = y at h1 h2 h3 HTK HEN g1 g2 g3 g4 g5 g6
        obtain ⟨a0, a1, a2⟩ := y
        simp only at h1 h2 h3 HEN g1 g2 g3 g4 g5 g6
        have l1 := Lib.itoa_length_le a0 (by omega) (by omega)
        have l2 := Lib.itoa_length_le a1 (by omega) (by omega)
        have l3 := Lib.itoa_length_le a2 (by omega) (by omega)
        obtain ⟨t1, H1⟩ : ∃ t, Hid ((⟨(Lib.itoa a0).toArray⟩ : ByteArray) = t) := ⟨_, Lib.hid rfl⟩
        obtain ⟨t2, H2⟩ : ∃ t, Hid ((⟨(Lib.itoa a1).toArray⟩ : ByteArray) = t) := ⟨_, Lib.hid rfl⟩
        obtain ⟨t3, H3⟩ : ∃ t, Hid ((⟨(Lib.itoa a2).toArray⟩ : ByteArray) = t) := ⟨_, Lib.hid rfl⟩
        rw [H1.out, H2.out, H3.out] at HEN
        have z1 : t1.size ≤ 21 := by rw [← H1.out]; show (Lib.itoa a0).toArray.size ≤ 21; simpa using l1
        have z2 : t2.size ≤ 21 := by rw [← H2.out]; show (Lib.itoa a1).toArray.size ≤ 21; simpa using l2
        have z3 : t3.size ≤ 21 := by rw [← H3.out]; show (Lib.itoa a2).toArray.size ≤ 21; simpa using l3
        clear l1 l2 l3 hl0
        by_cases hk0 : k = 0
        case pos =>
          have HE := Lib.hid (show o ++ t1 ++ (⟨#[46]⟩ : ByteArray) ++ t2 ++ (⟨#[46]⟩ : ByteArray) ++ t3 = joinB ((ls.take (k + 1)).map entB) ⟨#[32]⟩ from by
            have e0 : ls.take k = [] := by rw [hk0]; rfl
            have eo : o = ⟨#[]⟩ := by rw [HO.out, e0]; rfl
            rw [HTK.out, List.map_append, e0, List.map_nil, List.nil_append, List.map_cons, List.map_nil, joinB_one, ← HEN.out, eo]
            apply ByteArray.ext
            apply Array.ext'
            simp)
          have HZ := Lib.hid (show (o ++ t1 ++ (⟨#[46]⟩ : ByteArray) ++ t2 ++ (⟨#[46]⟩ : ByteArray) ++ t3).size ≤ (k + 1) * 66 from by
            simp only [ByteArray.size_append]
            have : (⟨#[46]⟩ : ByteArray).size = 1 := rfl
            have hzz := HZ0.out
            omega)
          have k1 : ∀ w, (Op.stringOp .add (o) t1).run Tryd.prog w = .ok (.string (o ++ t1)) w := add_str _ _ (by have := HZ0.out; (try simp only [ByteArray.size_append]); omega)
          have k2 : ∀ w, (Op.stringOp .add (o ++ t1) (⟨#[46]⟩ : ByteArray)).run Tryd.prog w = .ok (.string (o ++ t1 ++ (⟨#[46]⟩ : ByteArray))) w := add_str _ _ (by have := HZ0.out; (try simp only [ByteArray.size_append]); have : (⟨#[46]⟩ : ByteArray).size = 1 := rfl; omega)
          have k3 : ∀ w, (Op.stringOp .add (o ++ t1 ++ (⟨#[46]⟩ : ByteArray)) t2).run Tryd.prog w = .ok (.string (o ++ t1 ++ (⟨#[46]⟩ : ByteArray) ++ t2)) w := add_str _ _ (by have := HZ0.out; (try simp only [ByteArray.size_append]); have : (⟨#[46]⟩ : ByteArray).size = 1 := rfl; omega)
          have k4 : ∀ w, (Op.stringOp .add (o ++ t1 ++ (⟨#[46]⟩ : ByteArray) ++ t2) (⟨#[46]⟩ : ByteArray)).run Tryd.prog w = .ok (.string (o ++ t1 ++ (⟨#[46]⟩ : ByteArray) ++ t2 ++ (⟨#[46]⟩ : ByteArray))) w := add_str _ _ (by have := HZ0.out; (try simp only [ByteArray.size_append]); have : (⟨#[46]⟩ : ByteArray).size = 1 := rfl; omega)
          have k5 : ∀ w, (Op.stringOp .add (o ++ t1 ++ (⟨#[46]⟩ : ByteArray) ++ t2 ++ (⟨#[46]⟩ : ByteArray)) t3).run Tryd.prog w = .ok (.string (o ++ t1 ++ (⟨#[46]⟩ : ByteArray) ++ t2 ++ (⟨#[46]⟩ : ByteArray) ++ t3)) w := add_str _ _ (by have := HZ0.out; (try simp only [ByteArray.size_append]); have : (⟨#[46]⟩ : ByteArray).size = 1 := rfl; omega)
          have hd : decide ((k : Int) > 0) = false := decide_eq_false (by omega)
          have hd2 : ¬ ((k : Int) > 0) := by omega
          clear hk0 HTK HEN HO
          go_wp2_with fail
          go_region_held3 (fun w' => w'.cell? ⟨b, off + k * 3, none⟩ = some (.int .i64 a0) ∧ w'.cell? ⟨b, off + k * 3 + 1, none⟩ = some (.int .i64 a1) ∧ w'.cell? ⟨b, off + k * 3 + 2, none⟩ = some (.int .i64 a2) ∧ w1.heap.size ≤ w'.heap.size)
            (first
              | exact ⟨h1, h2, h3, by simp⟩
              | (go_split_ands
                 refine ⟨?_, ?_, ?_, Nat.le_trans (by assumption) hb4.size⟩
                 all_goals (rw [hb4.cell (by simp <;> omega)]; assumption))
              | (go_split_ands
                 refine ⟨?_, ?_, ?_, Nat.le_trans (by assumption) hb3.size⟩
                 all_goals (rw [hb3.cell (by simp <;> omega)]; assumption))
              | (go_split_ands
                 refine ⟨?_, ?_, ?_, Nat.le_trans (by assumption) hb2.size⟩
                 all_goals (rw [hb2.cell (by simp <;> omega)]; assumption)))
            (first
              | (go_at_call 18; ((with_reducible refine (decIs a0 _ (by omega) (by omega) t1 H1.out).mono ?_); rintro e w2 ⟨rfl, hb2⟩))
              | (go_at_call 18; ((with_reducible refine (decIs a1 _ (by omega) (by omega) t2 H2.out).mono ?_); rintro e w3 ⟨rfl, hb3⟩))
              | (go_at_call 18; ((with_reducible refine (decIs a2 _ (by omega) (by omega) t3 H3.out).mono ?_); rintro e w4 ⟨rfl, hb4⟩)))
          have hb14 := below_three' (a := w1) hb2 hb3 hb4
          have HB4 := Lib.hid (HB1.out.trans (hb14.mono HB1.out.size))
          clear hb2 hb3 hb4 hb14 h1 h2 h3 HB1
          go_wp2
          go_roundw
          case rel => exact ⟨k + 1, _, by omega, rfl, by go_num, HB4, HE, HZ⟩
          case measure => simp [intOf]; omega
        case neg =>
          have HE := Lib.hid (show o ++ (⟨#[32]⟩ : ByteArray) ++ t1 ++ (⟨#[46]⟩ : ByteArray) ++ t2 ++ (⟨#[46]⟩ : ByteArray) ++ t3 = joinB ((ls.take (k + 1)).map entB) ⟨#[32]⟩ from by
            have e0 : (ls.take k).map entB ≠ [] := by
              intro h
              have := congrArg List.length h
              rw [List.length_map, List.length_take, HL.out] at this
              simp only [List.length_nil] at this
              omega
            rw [HTK.out, List.map_append, List.map_cons, List.map_nil, joinB_snoc, if_neg e0, ← HO.out, ← HEN.out]
            simp only [ByteArray.append_assoc])
          have HZ := Lib.hid (show (o ++ (⟨#[32]⟩ : ByteArray) ++ t1 ++ (⟨#[46]⟩ : ByteArray) ++ t2 ++ (⟨#[46]⟩ : ByteArray) ++ t3).size ≤ (k + 1) * 66 from by
            simp only [ByteArray.size_append]
            have : (⟨#[46]⟩ : ByteArray).size = 1 := rfl
            have hzz := HZ0.out
            have : (⟨#[32]⟩ : ByteArray).size = 1 := rfl; omega)
          have k1 : ∀ w, (Op.stringOp .add (o ++ (⟨#[32]⟩ : ByteArray)) t1).run Tryd.prog w = .ok (.string (o ++ (⟨#[32]⟩ : ByteArray) ++ t1)) w := add_str _ _ (by have := HZ0.out; (try simp only [ByteArray.size_append]); have : (⟨#[32]⟩ : ByteArray).size = 1 := rfl; omega)
          have k2 : ∀ w, (Op.stringOp .add (o ++ (⟨#[32]⟩ : ByteArray) ++ t1) (⟨#[46]⟩ : ByteArray)).run Tryd.prog w = .ok (.string (o ++ (⟨#[32]⟩ : ByteArray) ++ t1 ++ (⟨#[46]⟩ : ByteArray))) w := add_str _ _ (by have := HZ0.out; (try simp only [ByteArray.size_append]); have : (⟨#[46]⟩ : ByteArray).size = 1 := rfl; have : (⟨#[32]⟩ : ByteArray).size = 1 := rfl; omega)
          have k3 : ∀ w, (Op.stringOp .add (o ++ (⟨#[32]⟩ : ByteArray) ++ t1 ++ (⟨#[46]⟩ : ByteArray)) t2).run Tryd.prog w = .ok (.string (o ++ (⟨#[32]⟩ : ByteArray) ++ t1 ++ (⟨#[46]⟩ : ByteArray) ++ t2)) w := add_str _ _ (by have := HZ0.out; (try simp only [ByteArray.size_append]); have : (⟨#[46]⟩ : ByteArray).size = 1 := rfl; have : (⟨#[32]⟩ : ByteArray).size = 1 := rfl; omega)
          have k4 : ∀ w, (Op.stringOp .add (o ++ (⟨#[32]⟩ : ByteArray) ++ t1 ++ (⟨#[46]⟩ : ByteArray) ++ t2) (⟨#[46]⟩ : ByteArray)).run Tryd.prog w = .ok (.string (o ++ (⟨#[32]⟩ : ByteArray) ++ t1 ++ (⟨#[46]⟩ : ByteArray) ++ t2 ++ (⟨#[46]⟩ : ByteArray))) w := add_str _ _ (by have := HZ0.out; (try simp only [ByteArray.size_append]); have : (⟨#[46]⟩ : ByteArray).size = 1 := rfl; have : (⟨#[32]⟩ : ByteArray).size = 1 := rfl; omega)
          have k5 : ∀ w, (Op.stringOp .add (o ++ (⟨#[32]⟩ : ByteArray) ++ t1 ++ (⟨#[46]⟩ : ByteArray) ++ t2 ++ (⟨#[46]⟩ : ByteArray)) t3).run Tryd.prog w = .ok (.string (o ++ (⟨#[32]⟩ : ByteArray) ++ t1 ++ (⟨#[46]⟩ : ByteArray) ++ t2 ++ (⟨#[46]⟩ : ByteArray) ++ t3)) w := add_str _ _ (by have := HZ0.out; (try simp only [ByteArray.size_append]); have : (⟨#[46]⟩ : ByteArray).size = 1 := rfl; have : (⟨#[32]⟩ : ByteArray).size = 1 := rfl; omega)
          have hd : decide ((k : Int) > 0) = true := decide_eq_true (by omega)
          have hd2 : (k : Int) > 0 := by omega
          have k0 : ∀ w, (Op.stringOp .add o (⟨#[32]⟩ : ByteArray)).run Tryd.prog w = .ok (.string (o ++ (⟨#[32]⟩ : ByteArray))) w := add_str _ _ (by have := HZ0.out; have : (⟨#[32]⟩ : ByteArray).size = 1 := rfl; omega)
          clear hk0 HTK HEN HO
          go_wp2_with fail
          go_region_held3 (fun w' => w'.cell? ⟨b, off + k * 3, none⟩ = some (.int .i64 a0) ∧ w'.cell? ⟨b, off + k * 3 + 1, none⟩ = some (.int .i64 a1) ∧ w'.cell? ⟨b, off + k * 3 + 2, none⟩ = some (.int .i64 a2) ∧ w1.heap.size ≤ w'.heap.size)
            (first
              | exact ⟨h1, h2, h3, by simp⟩
              | (go_split_ands
                 refine ⟨?_, ?_, ?_, Nat.le_trans (by assumption) hb4.size⟩
                 all_goals (rw [hb4.cell (by simp <;> omega)]; assumption))
              | (go_split_ands
                 refine ⟨?_, ?_, ?_, Nat.le_trans (by assumption) hb3.size⟩
                 all_goals (rw [hb3.cell (by simp <;> omega)]; assumption))
              | (go_split_ands
                 refine ⟨?_, ?_, ?_, Nat.le_trans (by assumption) hb2.size⟩
                 all_goals (rw [hb2.cell (by simp <;> omega)]; assumption)))
            (first
              | (go_at_call 18; ((with_reducible refine (decIs a0 _ (by omega) (by omega) t1 H1.out).mono ?_); rintro e w2 ⟨rfl, hb2⟩))
              | (go_at_call 18; ((with_reducible refine (decIs a1 _ (by omega) (by omega) t2 H2.out).mono ?_); rintro e w3 ⟨rfl, hb3⟩))
              | (go_at_call 18; ((with_reducible refine (decIs a2 _ (by omega) (by omega) t3 H3.out).mono ?_); rintro e w4 ⟨rfl, hb4⟩)))
          have hb14 := below_three' (a := w1) hb2 hb3 hb4
          have HB4 := Lib.hid (HB1.out.trans (hb14.mono HB1.out.size))
          clear hb2 hb3 hb4 hb14 h1 h2 h3 HB1
          go_wp2
          go_roundw
          case rel => exact ⟨k + 1, _, by omega, rfl, by go_num, HB4, HE, HZ⟩
          case measure => simp [intOf]; omega
      case neg =>
        have HK := Lib.hid (show o = R from by rw [HO.out, List.take_of_length_le (by rw [HL.out]; omega)]; exact HZ.out)
        go_wp2
        go_ret
        exact ⟨ret_s HK.out, HB1.out⟩
theorem SpecDdtText_is (v : Value) (ls : List EntM) (t : ByteArray) (w : World) (h : Sl w 3 v ls.length (ecs ls)) (hv : Low w.heap.size v) (ht : ddtText ls = t) :
    Calls Tryd.prog 12 #[v] w fun e w' => e = .returned (.string t) ∧ Below w.heap.size w w' := ht ▸ SpecDdtText_any v ls w h hv
end Go.Proofs.YtojjenclcidnkaaDoor
