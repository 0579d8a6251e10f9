/-
  impl's DdtText.
-/
import Derived.Test.YtojjenclcidnkaaDoorDdtT
set_option maxRecDepth 100000
namespace Go.Proofs.YtojjenclcidnkaaDoor
open Go.ChangeShapes Go.WideShapes Go.ChangeAt Go.RowKit Go.Proofs.Palim

set_option maxHeartbeats 4000000 in
theorem ImplDdtText_any (v : Value) (ls : List EntM) (w : World) (h : Sl w 3 v ls.length (ecs ls)) (hv : Low w.heap.size v) (hp : HasPow w) :
    Calls Tryd.prog 15 #[v] w fun e w' => e = .returned (.string (ddtText ls)) ∧ Below w.heap.size w w' := by
  have hnot : ∀ (x : Bool) (w : World), (Op.unary .not (.bool x)).run Tryd.prog w = .ok (.bool (!x)) w := fun _ _ => rfl
  obtain ⟨i0, hi, hz0, hz1, hz2⟩ := info_parts infoStr
  obtain ⟨R, HR⟩ : ∃ R, Hid (ddtText ls = R) := ⟨_, Lib.hid rfl⟩
  rw [HR.out]
  have HV := Lib.hid hv
  have HD := Lib.hid h
  have HP := Lib.hid hp
  obtain ⟨n, HL⟩ : ∃ n, Hid (ls.length = n) := ⟨_, Lib.hid rfl⟩
  obtain ⟨_, A, c, rfl, hnc, hcm, _⟩ := h
  unfold maxLen at hcm
  clear hv hp
  rw [HL.out] at HD HV hnc ⊢
  go_enter Tryd.func15, Tryd.ntmps15
  go_wp2_with fail
  refine (ImplDdtOk_any _ ls _ (by rw [HL.out]; exact HD.out) HV.out).mono ?_
  rintro e w1 ⟨rfl, hb⟩
  have HD1 := Lib.hid (HD.out.below hb HV.out)
  have HV1 := Lib.hid (fun b e => Nat.lt_of_lt_of_le (HV.out b e) hb.size)
  have HP1 := Lib.hid (HP.out.below hb HP.out.lt)
  have B1 := Lib.hid hb
  clear hb HD HV HP
  by_cases hok : DdtOkM ls
  case neg =>
    rw [decide_eq_false hok]
    have HZ := Lib.hid (show (⟨#[]⟩ : ByteArray) = R from by rw [← HR.out]; unfold ddtText; rw [if_neg hok])
    clear hok
    go_wp2
    go_ret
    exact ⟨ret_s HZ.out, B1.out⟩
  case pos =>
    rw [decide_eq_true hok]
    have HZ := Lib.hid (show joinB (ls.map entB) ⟨#[32]⟩ = R from by rw [← HR.out]; unfold ddtText; rw [if_pos hok])
    have HG := Lib.hid (show ∀ (j : Nat) (h : j < ls.length), EntOkM ls[j] from fun j h => (hok.2 j h h).1)
    have hn48 : n ≤ 48 := by rw [← HL.out]; exact hok.1
    have HSZ := Lib.hid (show (joinB (ls.map entB) ⟨#[32]⟩).size ≤ 140737488355328 from by
      have h1 := joinB_bd (ls.map entB) ⟨#[32]⟩ 65 (by
        intro x hx
        obtain ⟨y, hy, rfl⟩ := List.mem_map.1 hx
        obtain ⟨j, hj, rfl⟩ := List.mem_iff_getElem.1 hy
        exact entB_bd _ (HG.out j hj))
      rw [List.length_map, HL.out] at h1
      have h2 : (⟨#[32]⟩ : ByteArray).size = 1 := rfl
      rw [h2] at h1
      omega)
    clear hok HR
    go_wp2
    go_loopw [3, 5, 11] (fun s _ i wr => ∃ (k : Nat) (A2 : Option Addr) (c2 : Nat), k ≤ n ∧ s = .slice A2 k c2 ∧ i = .int .i64 k ∧ Hid (Below w1.heap.size w1 wr) ∧ Hid (wr.ownsRow w1.heap.size 9 1 (.slice A2 k c2) k (scs ((ls.take k).map entB)))) (fun _ _ i _ => n - (intOf i).toNat)
    case atStart => exact ⟨0, none, 0, Nat.zero_le _, rfl, rfl, Lib.hid (Below.refl _ _), Lib.hid ⟨rfl, .inl ⟨rfl, rfl⟩⟩⟩
    case round =>
      obtain ⟨k, A2, c2, hk, rfl, rfl, HB, HO⟩ := hrel
      by_cases hlt : k < n
      case pos =>
        have hl0 : k < ls.length := by rw [HL.out]; exact hlt
        obtain ⟨b, off, c', hv', _, _, hcell⟩ := (HD1.out.below HB.out HV1.out).form (by omega)
        injection hv' with e1 e2 e3
        subst e1 e3
        clear e2
        obtain ⟨h1, h2, h3⟩ := ent_read hcell k hl0
        have hk1 : (k : Int) < (n : Int) := by omega
        have HTK := Lib.hid (show (ls.take (k + 1)).map entB = (ls.take k).map entB ++ [entB ls[k]] from by rw [List.take_succ_eq_append_getElem hl0, List.map_append, List.map_cons, List.map_nil])
        obtain ⟨g1, g2, g3, g4, g5, g6⟩ := HG.out k hl0
        clear hcell
        generalize ls[k] = y at h1 h2 h3 HTK g1 g2 g3 g4 g5 g6
        obtain ⟨a0, a1, a2⟩ := y
        simp only at h1 h2 h3 g1 g2 g3 g4 g5 g6
        obtain ⟨t, HT⟩ : ∃ t, Hid ((⟨(trip a0 a1 a2).toArray⟩ : ByteArray) = t) := ⟨_, Lib.hid rfl⟩
        have HTK2 := Lib.hid (show (ls.take (k + 1)).map entB = (ls.take k).map entB ++ [t] from by rw [HTK.out, ← HT.out]; rfl)
        have HBa := Lib.hid (HB.out.alloc HB.out.size (.cells #[.int .i64 a0, .int .i64 a1, .int .i64 a2] 33))
        have HPa := Lib.hid (HP1.out.below HBa.out HP1.out.lt)
        have HOa := Lib.hid (own_kept HO.out (w' := wr.alloc (.cells #[.int .i64 a0, .int .i64 a1, .int .i64 a2] 33)) (fun b e => Below.heap_alloc _ _ b (HO.out.lt b e).2))
        clear hl0 HTK HB HO
        go_wp2_with fail
        refine (blkPointed_is a0 a1 a2 _ ⟨by omega, by omega⟩ ⟨by omega, by omega⟩ ⟨by omega, by omega⟩ HPa.out t HT.out).mono ?_
        rintro e w2 ⟨rfl, hb2⟩
        have HB2 := Lib.hid (HBa.out.trans (hb2.mono HBa.out.size))
        have HO2 := Lib.hid (own_kept HOa.out (w' := w2) (fun b e => hb2.block b (HOa.out.lt b e).2))
        have HO3 := Lib.hid (own_kept HO2.out (w' := w2.alloc (.cells #[.string t] 9)) (fun b e => Below.heap_alloc _ _ b (HO2.out.lt b e).2))
        have HS := Lib.hid (sl_one w2 t 9)
        have hw2 : w1.heap.size ≤ w2.heap.size := HB2.out.size
        clear hb2 HBa HPa HOa HO2 h1 h2 h3
        go_wp2_with (first | (at_builtin; refine wpList_append_freshB _ rfl _ _ 28 rfl w1.heap.size 9 i0 _ 1 16 Tryd.underlying28 hi hz0 hz1 hz2 rfl (by omega) (.slice A2 k c2) k _ rfl HO3.out (.slice (some ⟨w2.heap.size, 0, none⟩) 1 1) 1 [.string t] rfl HS.out (by simp [Value.oneCell']) (by unfold maxLen; omega) (by omega) (by simp; omega) ?_))
        intro A3 cap3 w3 hown3 hg3 _
        have HB3 := Lib.hid (show Below w1.heap.size w1 w3 from (HB2.out.alloc hw2 (.cells #[.string t] 9)).grown hg3 (by simp; omega) (fun b e => (HO3.out.lt b e).1))
        have HO4 := Lib.hid (show w3.ownsRow w1.heap.size 9 1 (.slice A3 (k + 1) cap3) (k + 1) (scs ((ls.take (k + 1)).map entB)) from by rw [HTK2.out, scs_snoc, List.map_take]; exact hown3)
        clear hown3 hg3 HO3 HS HB2 HTK2
        go_wp2
        go_roundw
        case rel => exact ⟨k + 1, A3, cap3, by omega, rfl, by go_num, HB3, HO4⟩
        case measure => simp [intOf]; omega
      case neg =>
        have hkn : k = n := by omega
        subst hkn
        have HW := Lib.hid (show wr.ownsRow w1.heap.size 9 1 (.slice A2 k c2) (ls.map entB).length (scs (ls.map entB)) from by
          have := HO.out
          rw [List.take_of_length_le (by rw [HL.out]; omega)] at this
          rw [List.length_map, HL.out]
          exact this)
        clear HO
        go_wp2_with fail
        refine (joinIs _ (ls.map entB) ⟨#[32]⟩ _ (sl_of_own HW.out) (low_of_own HW.out) (by rw [List.length_map, HL.out]; omega) HSZ.out R HZ.out).mono ?_
        rintro e w2 ⟨rfl, hb2⟩
        have HB2 := Lib.hid (HB.out.trans (hb2.mono HB.out.size))
        clear hb2
        go_wp2
        go_ret
        exact ⟨rfl, B1.out.trans (HB2.out.mono B1.out.size)⟩
theorem ImplDdtText_is (v : Value) (ls : List EntM) (t : ByteArray) (w : World) (h : Sl w 3 v ls.length (ecs ls)) (hv : Low w.heap.size v) (hp : HasPow w) (ht : ddtText ls = t) :
    Calls Tryd.prog 15 #[v] w fun e w' => e = .returned (.string t) ∧ Below w.heap.size w w' := ht ▸ ImplDdtText_any v ls w h hv hp
end Go.Proofs.YtojjenclcidnkaaDoor
