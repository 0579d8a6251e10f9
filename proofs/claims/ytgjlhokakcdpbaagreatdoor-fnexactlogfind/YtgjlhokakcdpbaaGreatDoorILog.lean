/-
  impl's LogText.
-/
import Derived.Test.YtgjlhokakcdpbaaGreatDoorIWord
import Derived.Test.YtgjlhokakcdpbaaGreatDoorTexts
set_option maxRecDepth 100000
namespace Go.Proofs.YtgjlhokakcdpbaaGreatDoor
open Go.ChangeShapes Go.WideShapes Go.ChangeAt Go.RowKit Go.Proofs.Palim

theorem word_sl (w : World) (s : ByteArray) (e : Nat) : Sl (w.alloc (.cells #[.string s] e)) 1 (.slice (some ⟨w.heap.size, 0, none⟩) 1 1) 1 [.string s] := sl_one w s e
set_option maxHeartbeats 4000000 in
theorem implLog_any (r : RecM) (w : World) (hza : r.a.size ≤ maxLen) (hzt : r.text.size ≤ maxLen) (hp : HasPow w) (hg : HasTab w) :
    Calls Tryz.prog 7 #[rv r] w fun e w' => e = .returned (.string (logText r)) ∧ Below w.heap.size w w' := by
  obtain ⟨i0, hi, hz0, hz1, hz2⟩ := info_parts infoStr
  obtain ⟨R, HR⟩ : ∃ R, Hid (logText r = R) := ⟨_, Lib.hid rfl⟩
  rw [HR.out]
  have HN := Lib.hid (show ¬ RecOk r → noB = R from fun h => by rw [← HR.out, log_of_no h])
  have X := Lib.hid (box_new w #[.int .i64 r.txg, .int .i64 r.seq, .int .i64 r.kind, .string r.a, .string r.b, .int .i64 r.i, .string r.text] 26)
  have B0 := Lib.hid (Below.new (w := w) (.cells #[.int .i64 r.txg, .int .i64 r.seq, .int .i64 r.kind, .string r.a, .string r.b, .int .i64 r.i, .string r.text] 26))
  have hpw := hp.lt
  have hgw := hg.lt
  have HP := Lib.hid hp
  have HG := Lib.hid hg
  unfold maxLen at hza hzt
  clear hp hg
  by_cases h5 : r.kind = 3
  case neg =>
    have HF := Lib.hid (HN.out (fun c => h5 c.2.1))
    have hq : ((r.kind : Int) != 3) = true := by simpa using h5
    clear HN HR X
    go_enter Tryz.func7, Tryz.ntmps7
    go_wp2
    go_ret
    exact ⟨ret_s HF.out, B0.out⟩
  case pos =>
  have hq : ((r.kind : Int) != 3) = false := by simpa using h5
  have H5k := Lib.hid h5
  clear h5
  by_cases h7 : r.b.size = 0
  case neg =>
    have HF := Lib.hid (HN.out (fun c => h7 c.2.2.2.1))
    have hb0 := empty_no h7
    clear HN HR X
    go_enter Tryz.func7, Tryz.ntmps7
    go_wp2
    go_ret
    exact ⟨ret_s HF.out, B0.out⟩
  case pos =>
  have hb0 := empty_yes h7
  have HW := Lib.hid (rec_words r H5k.out h7)
  have HNW := Lib.hid (show ∀ x ∈ logWs r, x.size = 0 → noB = R from fun x hx h0 => HN.out (fun c => (HW.out.1 c) x hx h0))
  have HYW := Lib.hid (show (∀ x ∈ logWs r, x.size ≠ 0) → RecOk r ∧ sealB (joinB (logWs r) blB) = R from fun h => ⟨HW.out.2 h, by rw [← HR.out, log_of_ok (HW.out.2 h)]; rfl⟩)
  clear HN HW HR H5k
  go_enter Tryz.func7, Tryz.ntmps7
  go_wp2_with fail
  refine (logFields_any r _).mono ?_
  rintro e w1 ⟨rfl, hb⟩
  have B1 := Lib.hid (B0.out.trans (hb.mono B0.out.size))
  have P0 := Lib.hid (HP.out.below B1.out hpw)
  have G0 := Lib.hid (HG.out.below B1.out hgw)
  clear hb X B0 HP HG
  go_wp2
  go_loopw [3, 5, 6, 19] (fun s _ _ i wr => ∃ (k : Nat) (A2 : Option Addr) (c2 : Nat), k ≤ 5 ∧ s = .slice A2 k c2 ∧ i = .int .i64 k ∧ Hid (∀ x ∈ (logWs r).take k, x.size ≠ 0) ∧ Hid (Below w1.heap.size w1 wr) ∧ Hid (wr.ownsRow w1.heap.size 9 1 (.slice A2 k c2) k (scs ((logWs r).take k)))) (fun _ _ _ i _ => 5 - (intOf i).toNat)
  case atStart => exact ⟨0, none, 0, Nat.zero_le _, rfl, rfl, Lib.hid (by simp), Lib.hid (Below.refl _ _), Lib.hid ⟨rfl, .inl ⟨rfl, rfl⟩⟩⟩
  case round =>
    obtain ⟨k, A2, c2, hk, rfl, rfl, HE, HB, HO⟩ := hrel
    have P1 := Lib.hid (P0.out.below HB.out P0.out.lt)
    have G1 := Lib.hid (G0.out.below HB.out G0.out.lt)
    rcases (show k = 0 ∨ k = 1 ∨ k = 2 ∨ k = 3 ∨ k = 4 ∨ k = 5 by omega) with rfl | rfl | rfl | rfl | rfl | rfl
    · obtain ⟨x, HX⟩ : ∃ x, Hid (markW r.txg r.seq = x) := ⟨_, Lib.hid rfl⟩
      have HMX := Lib.hid (show x ∈ logWs r from by rw [← HX.out]; simp [logWs])
      have HTK := Lib.hid (show (logWs r).take 1 = (logWs r).take 0 ++ [x] from by rw [← HX.out]; rfl)
      have hix : ∀ w, (Instr.index 81 (fieldsV r) (.int .i64 0)).run Tryz.prog w = .ok (.iface 149 (.agg #[.int .i64 r.txg, .int .i64 r.seq])) w := fun _ => by kernel_rfl
      go_wp2_with fail
      refine (markWord_is r.txg r.seq x _ P1.out HX.out).mono ?_
      rintro e w2 ⟨rfl, hb2⟩
      have HB2 := Lib.hid (HB.out.trans (hb2.mono HB.out.size))
      have HO2 := Lib.hid (own_kept HO.out (w' := w2) (fun b e => hb2.block b (HO.out.lt b e).2))
      have hw2 : w1.heap.size ≤ w2.heap.size := HB2.out.size
      clear hb2 HB HO P1 G1
      by_cases hx0 : x.size = 0
      · have HF := Lib.hid (HNW.out x HMX.out hx0)
        have he := empty_yes hx0
        go_wp2
        go_ret
        exact ⟨ret_s HF.out, B1.out.trans (HB2.out.mono B1.out.size)⟩
      · have he := empty_no hx0
        have HE2 := Lib.hid (show ∀ y ∈ (logWs r).take 1, y.size ≠ 0 from by
          rw [HTK.out]
          intro y hy
          rcases List.mem_append.1 hy with h | h
          · exact HE.out y h
          · obtain rfl := List.mem_singleton.1 h; exact hx0)
        have HO3 := Lib.hid (own_kept HO2.out (w' := w2.alloc (.cells #[.string x] 9)) (fun b e => Below.heap_alloc _ _ b (HO2.out.lt b e).2))
        have HS := Lib.hid (sl_one w2 x 9)
        clear HO2 HE hx0
        go_wp2_with (first | (at_builtin; refine wpList_append_freshB _ rfl _ _ 32 rfl w1.heap.size 9 i0 _ 1 16 Tryz.underlying32 hi hz0 hz1 hz2 rfl (by omega) (.slice A2 0 c2) 0 _ rfl HO3.out (.slice (some ⟨w2.heap.size, 0, none⟩) 1 1) 1 [.string x] rfl HS.out (by simp [Value.oneCell']) (by unfold maxLen; omega) (by omega) (by simp; omega) ?_))
        intro A3 cap3 w3 hown3 hg3 _
        have HB3 := Lib.hid (show Below w1.heap.size w1 w3 from (HB2.out.alloc hw2 (.cells #[.string x] 9)).grown hg3 (by simp; omega) (fun b e => (HO3.out.lt b e).1))
        have HO4 := Lib.hid (show w3.ownsRow w1.heap.size 9 1 (.slice A3 1 cap3) 1 (scs ((logWs r).take 1)) from by rw [HTK.out, scs_snoc]; exact hown3)
        clear hown3 hg3 HO3 HS HB2 HTK
        go_wp2
        go_roundw
        case rel => exact ⟨1, A3, cap3, by omega, rfl, rfl, HE2, HB3, HO4⟩
        case measure => simp [intOf]
    · obtain ⟨x, HX⟩ : ∃ x, Hid (nameW r.a = x) := ⟨_, Lib.hid rfl⟩
      have HMX := Lib.hid (show x ∈ logWs r from by rw [← HX.out]; simp [logWs])
      have HTK := Lib.hid (show (logWs r).take 2 = (logWs r).take 1 ++ [x] from by rw [← HX.out]; rfl)
      have hix : ∀ w, (Instr.index 81 (fieldsV r) (.int .i64 1)).run Tryz.prog w = .ok (.iface 150 (.string r.a)) w := fun _ => by kernel_rfl
      go_wp2_with fail
      refine (nameWord_is r.a x _ (by unfold maxLen; omega) HX.out).mono ?_
      rintro e w2 ⟨rfl, hb2⟩
      have HB2 := Lib.hid (HB.out.trans (hb2.mono HB.out.size))
      have HO2 := Lib.hid (own_kept HO.out (w' := w2) (fun b e => hb2.block b (HO.out.lt b e).2))
      have hw2 : w1.heap.size ≤ w2.heap.size := HB2.out.size
      clear hb2 HB HO P1 G1
      by_cases hx0 : x.size = 0
      · have HF := Lib.hid (HNW.out x HMX.out hx0)
        have he := empty_yes hx0
        go_wp2
        go_ret
        exact ⟨ret_s HF.out, B1.out.trans (HB2.out.mono B1.out.size)⟩
      · have he := empty_no hx0
        have HE2 := Lib.hid (show ∀ y ∈ (logWs r).take 2, y.size ≠ 0 from by
          rw [HTK.out]
          intro y hy
          rcases List.mem_append.1 hy with h | h
          · exact HE.out y h
          · obtain rfl := List.mem_singleton.1 h; exact hx0)
        have HO3 := Lib.hid (own_kept HO2.out (w' := w2.alloc (.cells #[.string x] 9)) (fun b e => Below.heap_alloc _ _ b (HO2.out.lt b e).2))
        have HS := Lib.hid (sl_one w2 x 9)
        clear HO2 HE hx0
        go_wp2_with (first | (at_builtin; refine wpList_append_freshB _ rfl _ _ 32 rfl w1.heap.size 9 i0 _ 1 16 Tryz.underlying32 hi hz0 hz1 hz2 rfl (by omega) (.slice A2 1 c2) 1 _ rfl HO3.out (.slice (some ⟨w2.heap.size, 0, none⟩) 1 1) 1 [.string x] rfl HS.out (by simp [Value.oneCell']) (by unfold maxLen; omega) (by omega) (by simp; omega) ?_))
        intro A3 cap3 w3 hown3 hg3 _
        have HB3 := Lib.hid (show Below w1.heap.size w1 w3 from (HB2.out.alloc hw2 (.cells #[.string x] 9)).grown hg3 (by simp; omega) (fun b e => (HO3.out.lt b e).1))
        have HO4 := Lib.hid (show w3.ownsRow w1.heap.size 9 1 (.slice A3 2 cap3) 2 (scs ((logWs r).take 2)) from by rw [HTK.out, scs_snoc]; exact hown3)
        clear hown3 hg3 HO3 HS HB2 HTK
        go_wp2
        go_roundw
        case rel => exact ⟨2, A3, cap3, by omega, rfl, rfl, HE2, HB3, HO4⟩
        case measure => simp [intOf]
    · obtain ⟨x, HX⟩ : ∃ x, Hid (blockW r.i = x) := ⟨_, Lib.hid rfl⟩
      have HMX := Lib.hid (show x ∈ logWs r from by rw [← HX.out]; simp [logWs])
      have HTK := Lib.hid (show (logWs r).take 3 = (logWs r).take 2 ++ [x] from by rw [← HX.out]; rfl)
      have hix : ∀ w, (Instr.index 81 (fieldsV r) (.int .i64 2)).run Tryz.prog w = .ok (.iface 151 (.int .i64 r.i)) w := fun _ => by kernel_rfl
      go_wp2_with fail
      refine (blockWord_is r.i x _ P1.out HX.out).mono ?_
      rintro e w2 ⟨rfl, hb2⟩
      have HB2 := Lib.hid (HB.out.trans (hb2.mono HB.out.size))
      have HO2 := Lib.hid (own_kept HO.out (w' := w2) (fun b e => hb2.block b (HO.out.lt b e).2))
      have hw2 : w1.heap.size ≤ w2.heap.size := HB2.out.size
      clear hb2 HB HO P1 G1
      by_cases hx0 : x.size = 0
      · have HF := Lib.hid (HNW.out x HMX.out hx0)
        have he := empty_yes hx0
        go_wp2
        go_ret
        exact ⟨ret_s HF.out, B1.out.trans (HB2.out.mono B1.out.size)⟩
      · have he := empty_no hx0
        have HE2 := Lib.hid (show ∀ y ∈ (logWs r).take 3, y.size ≠ 0 from by
          rw [HTK.out]
          intro y hy
          rcases List.mem_append.1 hy with h | h
          · exact HE.out y h
          · obtain rfl := List.mem_singleton.1 h; exact hx0)
        have HO3 := Lib.hid (own_kept HO2.out (w' := w2.alloc (.cells #[.string x] 9)) (fun b e => Below.heap_alloc _ _ b (HO2.out.lt b e).2))
        have HS := Lib.hid (sl_one w2 x 9)
        clear HO2 HE hx0
        go_wp2_with (first | (at_builtin; refine wpList_append_freshB _ rfl _ _ 32 rfl w1.heap.size 9 i0 _ 1 16 Tryz.underlying32 hi hz0 hz1 hz2 rfl (by omega) (.slice A2 2 c2) 2 _ rfl HO3.out (.slice (some ⟨w2.heap.size, 0, none⟩) 1 1) 1 [.string x] rfl HS.out (by simp [Value.oneCell']) (by unfold maxLen; omega) (by omega) (by simp; omega) ?_))
        intro A3 cap3 w3 hown3 hg3 _
        have HB3 := Lib.hid (show Below w1.heap.size w1 w3 from (HB2.out.alloc hw2 (.cells #[.string x] 9)).grown hg3 (by simp; omega) (fun b e => (HO3.out.lt b e).1))
        have HO4 := Lib.hid (show w3.ownsRow w1.heap.size 9 1 (.slice A3 3 cap3) 3 (scs ((logWs r).take 3)) from by rw [HTK.out, scs_snoc]; exact hown3)
        clear hown3 hg3 HO3 HS HB2 HTK
        go_wp2
        go_roundw
        case rel => exact ⟨3, A3, cap3, by omega, rfl, rfl, HE2, HB3, HO4⟩
        case measure => simp [intOf]
    · obtain ⟨x, HX⟩ : ∃ x, Hid (bytesW r.text = x) := ⟨_, Lib.hid rfl⟩
      have HMX := Lib.hid (show x ∈ logWs r from by rw [← HX.out]; simp [logWs])
      have HTK := Lib.hid (show (logWs r).take 4 = (logWs r).take 3 ++ [x] from by rw [← HX.out]; rfl)
      have hix : ∀ w, (Instr.index 81 (fieldsV r) (.int .i64 3)).run Tryz.prog w = .ok (.iface 152 (.string r.text)) w := fun _ => by kernel_rfl
      go_wp2_with fail
      refine (bytesWord_is r.text x _ (by unfold maxLen; omega) G1.out HX.out).mono ?_
      rintro e w2 ⟨rfl, hb2⟩
      have HB2 := Lib.hid (HB.out.trans (hb2.mono HB.out.size))
      have HO2 := Lib.hid (own_kept HO.out (w' := w2) (fun b e => hb2.block b (HO.out.lt b e).2))
      have hw2 : w1.heap.size ≤ w2.heap.size := HB2.out.size
      clear hb2 HB HO P1 G1
      by_cases hx0 : x.size = 0
      · have HF := Lib.hid (HNW.out x HMX.out hx0)
        have he := empty_yes hx0
        go_wp2
        go_ret
        exact ⟨ret_s HF.out, B1.out.trans (HB2.out.mono B1.out.size)⟩
      · have he := empty_no hx0
        have HE2 := Lib.hid (show ∀ y ∈ (logWs r).take 4, y.size ≠ 0 from by
          rw [HTK.out]
          intro y hy
          rcases List.mem_append.1 hy with h | h
          · exact HE.out y h
          · obtain rfl := List.mem_singleton.1 h; exact hx0)
        have HO3 := Lib.hid (own_kept HO2.out (w' := w2.alloc (.cells #[.string x] 9)) (fun b e => Below.heap_alloc _ _ b (HO2.out.lt b e).2))
        have HS := Lib.hid (sl_one w2 x 9)
        clear HO2 HE hx0
        go_wp2_with (first | (at_builtin; refine wpList_append_freshB _ rfl _ _ 32 rfl w1.heap.size 9 i0 _ 1 16 Tryz.underlying32 hi hz0 hz1 hz2 rfl (by omega) (.slice A2 3 c2) 3 _ rfl HO3.out (.slice (some ⟨w2.heap.size, 0, none⟩) 1 1) 1 [.string x] rfl HS.out (by simp [Value.oneCell']) (by unfold maxLen; omega) (by omega) (by simp; omega) ?_))
        intro A3 cap3 w3 hown3 hg3 _
        have HB3 := Lib.hid (show Below w1.heap.size w1 w3 from (HB2.out.alloc hw2 (.cells #[.string x] 9)).grown hg3 (by simp; omega) (fun b e => (HO3.out.lt b e).1))
        have HO4 := Lib.hid (show w3.ownsRow w1.heap.size 9 1 (.slice A3 4 cap3) 4 (scs ((logWs r).take 4)) from by rw [HTK.out, scs_snoc]; exact hown3)
        clear hown3 hg3 HO3 HS HB2 HTK
        go_wp2
        go_roundw
        case rel => exact ⟨4, A3, cap3, by omega, rfl, rfl, HE2, HB3, HO4⟩
        case measure => simp [intOf]
    · obtain ⟨x, HX⟩ : ∃ x, Hid (markW r.txg r.seq = x) := ⟨_, Lib.hid rfl⟩
      have HMX := Lib.hid (show x ∈ logWs r from by rw [← HX.out]; simp [logWs])
      have HTK := Lib.hid (show (logWs r).take 5 = (logWs r).take 4 ++ [x] from by rw [← HX.out]; rfl)
      have hix : ∀ w, (Instr.index 81 (fieldsV r) (.int .i64 4)).run Tryz.prog w = .ok (.iface 149 (.agg #[.int .i64 r.txg, .int .i64 r.seq])) w := fun _ => by kernel_rfl
      go_wp2_with fail
      refine (markWord_is r.txg r.seq x _ P1.out HX.out).mono ?_
      rintro e w2 ⟨rfl, hb2⟩
      have HB2 := Lib.hid (HB.out.trans (hb2.mono HB.out.size))
      have HO2 := Lib.hid (own_kept HO.out (w' := w2) (fun b e => hb2.block b (HO.out.lt b e).2))
      have hw2 : w1.heap.size ≤ w2.heap.size := HB2.out.size
      clear hb2 HB HO P1 G1
      by_cases hx0 : x.size = 0
      · have HF := Lib.hid (HNW.out x HMX.out hx0)
        have he := empty_yes hx0
        go_wp2
        go_ret
        exact ⟨ret_s HF.out, B1.out.trans (HB2.out.mono B1.out.size)⟩
      · have he := empty_no hx0
        have HE2 := Lib.hid (show ∀ y ∈ (logWs r).take 5, y.size ≠ 0 from by
          rw [HTK.out]
          intro y hy
          rcases List.mem_append.1 hy with h | h
          · exact HE.out y h
          · obtain rfl := List.mem_singleton.1 h; exact hx0)
        have HO3 := Lib.hid (own_kept HO2.out (w' := w2.alloc (.cells #[.string x] 9)) (fun b e => Below.heap_alloc _ _ b (HO2.out.lt b e).2))
        have HS := Lib.hid (sl_one w2 x 9)
        clear HO2 HE hx0
        go_wp2_with (first | (at_builtin; refine wpList_append_freshB _ rfl _ _ 32 rfl w1.heap.size 9 i0 _ 1 16 Tryz.underlying32 hi hz0 hz1 hz2 rfl (by omega) (.slice A2 4 c2) 4 _ rfl HO3.out (.slice (some ⟨w2.heap.size, 0, none⟩) 1 1) 1 [.string x] rfl HS.out (by simp [Value.oneCell']) (by unfold maxLen; omega) (by omega) (by simp; omega) ?_))
        intro A3 cap3 w3 hown3 hg3 _
        have HB3 := Lib.hid (show Below w1.heap.size w1 w3 from (HB2.out.alloc hw2 (.cells #[.string x] 9)).grown hg3 (by simp; omega) (fun b e => (HO3.out.lt b e).1))
        have HO4 := Lib.hid (show w3.ownsRow w1.heap.size 9 1 (.slice A3 5 cap3) 5 (scs ((logWs r).take 5)) from by rw [HTK.out, scs_snoc]; exact hown3)
        clear hown3 hg3 HO3 HS HB2 HTK
        go_wp2
        go_roundw
        case rel => exact ⟨5, A3, cap3, by omega, rfl, rfl, HE2, HB3, HO4⟩
        case measure => simp [intOf]
    · obtain ⟨hok, hsl⟩ := HYW.out (by exact HE.out)
      have HT := Lib.hid hsl
      have hbs := logB_size hok
      have HW5 := Lib.hid (show wr.ownsRow w1.heap.size 9 1 (.slice A2 5 c2) (logWs r).length (scs (logWs r)) from by
        exact HO.out)
      obtain ⟨jb, HJ⟩ : ∃ t, Hid (joinB (logWs r) blB = t) := ⟨_, Lib.hid rfl⟩
      rw [HJ.out] at HT
      have hjs : jb.size ≤ 1000000 := by rw [← HJ.out]; have := hbs.2; unfold logB at this; omega
      clear HO hsl HE hok hbs HNW HYW
      go_wp2_with fail
      refine (joinIs _ (logWs r) blB _ (sl_of_own HW5.out) (low_of_own HW5.out) (by show 5 ≤ _; omega) (by rw [HJ.out]; omega) jb HJ.out).mono ?_
      rintro e w2 ⟨rfl, hb2⟩
      have HB2 := Lib.hid (HB.out.trans (hb2.mono HB.out.size))
      have P2 := Lib.hid (P0.out.below HB2.out P0.out.lt)
      clear hb2 HB HW5 P1
      go_wp2_with fail
      refine (sealI_is jb R _ hjs P2.out HT.out).mono ?_
      rintro e w3 ⟨rfl, hb3⟩
      have HB3 := Lib.hid (HB2.out.trans (hb3.mono HB2.out.size))
      clear hb3
      go_wp2
      go_ret
      exact ⟨rfl, B1.out.trans (HB3.out.mono B1.out.size)⟩
theorem implLog_is (r : RecM) (t : ByteArray) (w : World) (hza : r.a.size ≤ maxLen) (hzt : r.text.size ≤ maxLen) (hp : HasPow w) (hg : HasTab w) (ht : logText r = t) :
    Calls Tryz.prog 7 #[rv r] w fun e w' => e = .returned (.string t) ∧ Below w.heap.size w w' := ht ▸ implLog_any r w hza hzt hp hg
end Go.Proofs.YtgjlhokakcdpbaaGreatDoor
