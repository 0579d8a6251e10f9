/-
  impl's BookTexts.
-/
import Derived.Test.YtoeaeckkmpdpiaaSortMem
import Derived.Test.YtoeaeckkmpdpiaaImOk
set_option maxRecDepth 100000
namespace Go.Proofs.Ytoeaeckkmpdpiaa
open Go.ChangeShapes Go.WideShapes Go.ChangeAt Go.RowKit Go.Proofs.Palim

/-- The texts that are not empty. -/
def neM (ts : List ByteArray) : List ByteArray := ts.filter (fun t => decide (t.size ≠ 0))
theorem neM_snoc (ts : List ByteArray) (t : ByteArray) : neM (ts ++ [t]) = if t.size = 0 then neM ts else neM ts ++ [t] := by
  unfold neM
  rw [List.filter_append, List.filter_cons, List.filter_nil]
  by_cases h : t.size = 0
  · rw [if_pos h, if_neg (by rw [decide_eq_true_eq]; exact fun c => c h), List.append_nil]
  · rw [if_neg h, if_pos (by rw [decide_eq_true_eq]; exact h)]
theorem neM_le (ts : List ByteArray) : (neM ts).length ≤ ts.length := List.length_filter_le _ _

set_option maxHeartbeats 4000000 in
theorem ImplBookTexts_any (v : Value) (ls : List SetM) (w : World) (h : BookR w v ls) (hs : BookShort ls) :
    Calls Try.prog 10 #[.agg #[v]] w (NewStrs w (textsM ls)) := by
  have hnot : ∀ (x : Bool) (w : World), (Op.unary .not (.bool x)).run Try.prog w = .ok (.bool (!x)) w := fun _ _ => rfl
  obtain ⟨i0, hi, hz0, hz1, hz2⟩ := info_parts infoStr
  have HS := Lib.hid hs
  have XB := Lib.hid (bbox_new h 30)
  have HW := Lib.hid (Below.new1 (w := w) (.cells #[v] 30))
  obtain ⟨A, c, rfl⟩ := h.form
  obtain ⟨n, HL⟩ : ∃ n, Hid (ls.length = n) := ⟨_, Lib.hid rfl⟩
  rw [HL.out] at XB HW ⊢
  clear h hs
  have x0 := XB.out.cell
  go_enter Try.func10, Try.ntmps10
  go_wp2_with fail
  refine (ImplBookOk_any _ ls _ XB.out.reads HS.out).mono ?_
  rintro e w1 ⟨rfl, hb⟩
  have XB1 := Lib.hid (XB.out.below hb)
  have HW1 := Lib.hid (HW.out.trans (hb.mono HW.out.size))
  clear hb XB HW x0
  by_cases hok : BookOkM ls
  case neg =>
    rw [decide_eq_false hok]
    have HE := Lib.hid (show textsM ls = [] from by unfold textsM; rw [if_neg hok])
    clear hok
    go_wp2
    go_ret
    exact ⟨_, rfl, by rw [HE.out]; exact ⟨rfl, .inl ⟨rfl, rfl⟩⟩, HW1.out⟩
  case pos =>
  rw [decide_eq_true hok]
  have HOK := Lib.hid hok
  have hn12 : n ≤ 1000 := by rw [← HL.out]; have := hok.1; omega
  clear hok
  have x0 := XB1.out.cell
  go_wp2
  clear x0
  go_loopw [3, 5, 14] (fun s _ i wr => ∃ (k m : Nat) (A2 : Option Addr) (c2 : Nat) (ss : List ByteArray), k ≤ n ∧ s = .slice A2 m c2 ∧ i = .int .i64 k ∧ Hid (ss = neM (blocksM (ls.take k))) ∧ Hid (wr.ownsRow (w.heap.size + 1) 9 1 (.slice A2 m c2) m (scs ss)) ∧ Hid (BBox wr w.heap.size w.heap.size (.slice A n c) ls) ∧ Hid (Below w.heap.size w wr)) (fun _ _ i _ => n - (intOf i).toNat)
  case atStart => exact ⟨0, 0, none, 0, [], Nat.zero_le _, rfl, rfl, Lib.hid rfl, Lib.hid ⟨rfl, .inl ⟨rfl, rfl⟩⟩, XB1, HW1⟩
  case round =>
    obtain ⟨k, m, A2, c2, ss, hk, rfl, rfl, HSS, HO2, XB2, HW2⟩ := hrel
    clear XB1 HW1
    by_cases hlt : k < n
    case neg =>
      have HE := Lib.hid (show ss = neM (blocksM ls) from by rw [HSS.out, List.take_of_length_le (by rw [HL.out]; omega)])
      have HF := Lib.hid (show (textsM ls).map bl = Lib.compact ((ss.map bl).mergeSort fun x y => decide (x ≤ y)) from by
        unfold textsM
        rw [if_pos HOK.out, fold_is, HE.out]
        rfl)
      have hm : m ≤ 1000000 := by
        have h1 := HO2.out.1
        rw [scs_length] at h1
        have h2 := neM_le (blocksM ls)
        rw [← HE.out, blocksM_length, HL.out] at h2
        omega
      clear HE HSS
      go_wp2_with fail
      refine (sort_own A2 c2 m (w.heap.size + 1) ss _ HO2.out XB2.out.box.lt hm).mono ?_
      rintro e w3 ⟨rfl, ts, hts, hown, hb⟩
      have HO3 := Lib.hid hown
      have hw3 : w.heap.size + 1 ≤ w3.heap.size := Nat.le_trans XB2.out.box.lt hb.size
      have HW3 := Lib.hid (HW2.out.trans (hb.mono (by omega)))
      have HTS := Lib.hid hts
      clear hown hb hts HO2 HW2 XB2
      go_wp2_with fail
      refine (compact_own A2 c2 m (w.heap.size + 1) ts _ HO3.out hw3 hm (textsM ls) (by rw [HF.out, HTS.out])).mono ?_
      rintro e w4 ⟨v4, rfl, hown, hb⟩
      have HW4 := Lib.hid (HW3.out.trans (hb.mono (by omega)))
      have HO4 := Lib.hid hown
      obtain ⟨_, A4, c4, rfl, _⟩ := sl_of_own hown
      clear hown hb HO3 HW3
      go_wp2
      go_ret
      exact ⟨_, rfl, own_base HO4.out (by omega), HW4.out⟩
    case pos =>
    have hl0 : k < ls.length := by rw [HL.out]; exact hlt
    have hk1 : (k : Int) < (n : Int) := by omega
    have hcells := XB2.out.reads.r
    rw [HL.out] at hcells
    obtain ⟨b, off, c', hv, hnc, hcm, hcell⟩ := hcells.form (by omega)
    injection hv with e1 e2 e3
    subst e1 e3
    clear e2 hcells
    obtain ⟨g0, g1, g2, g3, g4, g5, g6, g7, g8, g9, g10⟩ := (set_read hcell k hl0).all
    have HBK := Lib.hid (show blocksM (ls.take (k + 1)) = blocksM (ls.take k) ++ ls[k].bs from by rw [List.take_succ_eq_append_getElem hl0, blocksM_snoc])
    generalize ls[k] = y at g0 g1 g2 g3 g4 g5 g6 g7 g8 g9 g10 HBK
    clear hcell hl0
    have hnw := Below.new1 (w := wr) (.cells #[.string y.name, .int .i64 y.kind, .string y.frm, .string y.b0, .string y.b1, .string y.b2, .string y.b3, .string y.b4, .string y.b5, .string y.b6, .string y.b7] 65)
    have XB3 := Lib.hid (XB2.out.below hnw)
    have HW3 := Lib.hid (HW2.out.trans (hnw.mono HW2.out.size))
    have HO3 := Lib.hid (own_kept HO2.out (w' := wr.alloc (.cells #[.string y.name, .int .i64 y.kind, .string y.frm, .string y.b0, .string y.b1, .string y.b2, .string y.b3, .string y.b4, .string y.b5, .string y.b6, .string y.b7] 65)) (fun b e => hnw.block b (HO2.out.lt b e).2))
    clear hnw XB2 HW2 HO2
    go_wp2
    clear g0 g1 g2 g3 g4 g5 g6 g7 g8 g9 g10
    generalize wr.alloc (.cells #[.string y.name, .int .i64 y.kind, .string y.frm, .string y.b0, .string y.b1, .string y.b2, .string y.b3, .string y.b4, .string y.b5, .string y.b6, .string y.b7] 65) = W at XB3 HW3 HO3
    go_loopw [3, 7, 20] (fun s _ i wr => ∃ (j m : Nat) (A2 : Option Addr) (c2 : Nat) (ss : List ByteArray), j ≤ 8 ∧ s = .slice A2 m c2 ∧ i = .int .i64 j ∧ Hid (ss = neM (blocksM (ls.take k) ++ y.bs.take j)) ∧ Hid (wr.ownsRow (w.heap.size + 1) 9 1 (.slice A2 m c2) m (scs ss)) ∧ Hid (BBox wr w.heap.size w.heap.size (.slice (some ⟨b, off, none⟩) n c) ls) ∧ Hid (Below w.heap.size w wr)) (fun _ _ i _ => 8 - (intOf i).toNat)
    case atStart => exact ⟨0, m, A2, c2, ss, Nat.zero_le _, rfl, rfl, Lib.hid (by rw [HSS.out]; simp), HO3, XB3, HW3⟩
    case round =>
      clear HO3 XB3 HW3 HSS
      obtain ⟨j, m4, A4, c4, tt, hj, rfl, rfl, HTT, HO4, XB4, HW4⟩ := hrel
      by_cases hj8 : j < 8
      · have hix := idx8 y j hj8
        have hjl : j < y.bs.length := hj8
        have hj1 : (j : Int) < 8 := by omega
        have HT1 := Lib.hid (show blocksM (ls.take k) ++ y.bs.take (j + 1) = (blocksM (ls.take k) ++ y.bs.take j) ++ [y.bs[j]] from by rw [List.take_succ_eq_append_getElem hjl, List.append_assoc])
        have hm4 : m4 ≤ 1000000 := by
          have h1 := HO4.out.1
          rw [scs_length] at h1
          have h2 := neM_le (blocksM (ls.take k) ++ y.bs.take j)
          rw [← HTT.out, List.length_append, blocksM_length, List.length_take, List.length_take] at h2
          omega
        generalize y.bs[j] = t at hix HT1
        clear hjl
        by_cases ht : t.size = 0
        · have he := eqEmpty ht
          have he2 : (t.toList != []) = false := by have : t.toList = [] := by { rw [ByteArray.toList_eq]; obtain ⟨⟨l⟩⟩ := t; cases l with | nil => rfl | cons a l => simp [ByteArray.size] at ht } ; simp [this]
          have HT2 := Lib.hid (show tt = neM (blocksM (ls.take k) ++ y.bs.take (j + 1)) from by rw [HT1.out, neM_snoc, if_pos ht, HTT.out])
          clear ht
          go_wp2
          go_roundw
          case rel => exact ⟨j + 1, m4, A4, c4, tt, by omega, rfl, by go_num, HT2, HO4, XB4, HW4⟩
          case measure => simp [intOf]; omega
        · have he := neEmpty ht
          have HT2 := Lib.hid (show tt ++ [t] = neM (blocksM (ls.take k) ++ y.bs.take (j + 1)) from by rw [HT1.out, neM_snoc, if_neg ht, HTT.out])
          have HO5 := Lib.hid (own_kept HO4.out (w' := wr.alloc (.cells #[.string t] 9)) (fun b e => Below.heap_alloc _ _ b (HO4.out.lt b e).2))
          have HSL := Lib.hid (sl_one wr t 9)
          have hw : w.heap.size + 1 ≤ wr.heap.size := XB4.out.box.lt
          clear ht
          go_wp2_with (first | (at_builtin; refine wpList_append_freshB _ rfl _ _ 26 rfl (w.heap.size + 1) 9 i0 _ 1 16 Try.underlying26 hi hz0 hz1 hz2 rfl (by omega) (.slice A4 m4 c4) m4 _ rfl HO5.out (.slice (some ⟨wr.heap.size, 0, none⟩) 1 1) 1 [.string t] rfl HSL.out (by simp [Value.oneCell']) (by unfold maxLen; omega) (by omega) (by simp; omega) ?_))
          intro A6 cap6 w6 hown6 hg6 _
          have HW6 := Lib.hid (show Below w.heap.size w w6 from (HW4.out.alloc (by omega) (.cells #[.string t] 9)).grown hg6 (by simp; omega) (fun b e => by have := (HO5.out.lt b e).1; omega))
          have XB6 := Lib.hid (show BBox w6 w.heap.size w.heap.size (.slice (some ⟨b, off, none⟩) n c) ls from by
            have h1 := XB4.out.below (Below.new1 (w := wr) (.cells #[.string t] 9))
            refine ⟨h1.box.kept (hg6.block _ h1.box.lt (fun e => ?_)), h1.low, ⟨h1.reads.r.kept (fun b' e' => hg6.block b' (h1.reads.l b' e') (fun e => ?_)), fun b' e' => Nat.lt_of_lt_of_le (h1.reads.l b' e') hg6.size⟩, h1.lt⟩
            · have h2 := (HO5.out.lt _ e.symm).1
              omega
            · have h2 := (HO5.out.lt b' e.symm).1
              have h3 := h1.low b' e'
              omega)
          have HO6 := Lib.hid (show w6.ownsRow (w.heap.size + 1) 9 1 (.slice A6 (m4 + 1) cap6) (m4 + 1) (scs (tt ++ [t])) from by rw [scs_snoc]; exact hown6)
          clear hown6 hg6 HO5 HSL HW4 HO4 XB4
          go_wp2
          go_roundw
          case rel => exact ⟨j + 1, m4 + 1, A6, cap6, _, by omega, rfl, by go_num, HT2, HO6, XB6, HW6⟩
          case measure => simp [intOf]; omega
      · have HT2 := Lib.hid (show tt = neM (blocksM (ls.take (k + 1))) from by rw [HTT.out, HBK.out, show y.bs.take j = y.bs from List.take_of_length_le (by rw [y.bs_length]; omega)])
        clear HTT
        go_wp2
        go_roundw
        case rel => exact ⟨k + 1, m4, A4, c4, tt, by omega, rfl, by go_num, HT2, HO4, XB4, HW4⟩
        case measure => simp [intOf]; omega
end Go.Proofs.Ytoeaeckkmpdpiaa
