/-
  The document's BookTexts: the texts of all blocks, put in one after the other.
-/
import Derived.Test.YtoeaeckkmpdpiaaSpecIns
import Derived.Test.YtoeaeckkmpdpiaaSpecOk
set_option maxRecDepth 100000
namespace Go.Proofs.Ytoeaeckkmpdpiaa
open Go.ChangeShapes Go.WideShapes Go.ChangeAt Go.RowKit Go.Proofs.Palim

/-- Texts put in one after the other, the empty ones left out. -/
def foldT (ts : List ByteArray) : List ByteArray := ts.foldl (fun acc t => if t.size = 0 then acc else insM acc t) []
theorem foldT_snoc (ts : List ByteArray) (t : ByteArray) : foldT (ts ++ [t]) = if t.size = 0 then foldT ts else insM (foldT ts) t := by simp [foldT]
theorem insM_length (ss : List ByteArray) (s : ByteArray) : (insM ss s).length ≤ ss.length + 1 := by
  unfold insM
  split
  · omega
  · simp; omega
theorem foldT_length (ts : List ByteArray) : (foldT ts).length ≤ ts.length := by
  suffices h : ∀ (ts acc : List ByteArray), (ts.foldl (fun acc t => if t.size = 0 then acc else insM acc t) acc).length ≤ acc.length + ts.length by simpa [foldT] using h ts []
  intro ts
  induction ts with
  | nil => intro acc; simp
  | cons t ts ih =>
    intro acc
    simp only [List.foldl_cons, List.length_cons]
    refine Nat.le_trans (ih _) ?_
    split
    · omega
    · have := insM_length acc t; omega
/-- The blocks of all sets. -/
def blocksM (ls : List SetM) : List ByteArray := ls.flatMap SetM.bs
theorem blocksM_length (ls : List SetM) : (blocksM ls).length = ls.length * 8 := by
  induction ls with
  | nil => rfl
  | cons x ls ih => simp [blocksM, SetM.bs] at ih ⊢; omega
theorem blocksM_snoc (a : List SetM) (x : SetM) : blocksM (a ++ [x]) = blocksM a ++ x.bs := by simp [blocksM]
def textsM (ls : List SetM) : List ByteArray := if BookOkM ls then foldT (blocksM ls) else []

set_option maxHeartbeats 4000000 in
theorem BookTexts_any (v : Value) (ls : List SetM) (w : World) (h : BookR w v ls) (hs : BookShort ls) :
    Calls Try.prog 8 #[.agg #[v]] w (NewStrs w (textsM ls)) := by
  have hnot : ∀ (x : Bool) (w : World), (Op.unary .not (.bool x)).run Try.prog w = .ok (.bool (!x)) w := fun _ _ => rfl
  have HS := Lib.hid hs
  have XB := Lib.hid (bbox_new h 30)
  have HW := Lib.hid (Below.new1 (w := w) (.cells #[v] 30))
  obtain ⟨A, c, rfl⟩ := h.form
  obtain ⟨n, HL⟩ : ∃ n, Hid (ls.length = n) := ⟨_, Lib.hid rfl⟩
  have hn := HS.out.n
  rw [HL.out] at XB HW hn ⊢
  clear h hs
  have hnw := Below.new1 (w := w.alloc (.cells #[.slice A n c] 30)) (.cells #[] 9)
  have XB1 := Lib.hid (XB.out.below hnw)
  have HW1 := Lib.hid (HW.out.trans (hnw.mono HW.out.size))
  have HO1 := Lib.hid (show ((w.alloc (.cells #[.slice A n c] 30)).alloc (.cells #[] 9)).ownsRow (w.heap.size + 1) 9 1 (.slice (some ⟨w.heap.size + 1, 0, none⟩) 0 0) 0 (scs []) from by
    have := World.ownsRow_made (w.alloc (.cells #[.slice A n c] 30)) #[] 0 (base := w.heap.size + 1) (e := 9) (size := 1) (by simp) (by unfold maxLen; omega) rfl
    simpa [scs] using this)
  clear hnw XB HW
  go_enter Try.func8, Try.ntmps8
  go_wp2
  generalize (w.alloc (.cells #[.slice A n c] 30)).alloc (.cells #[] 9) = W at XB1 HW1 HO1
  go_loopw [3, 4, 5] (fun o i _ wr => ∃ (k : Nat) (ss : List ByteArray), k ≤ n ∧ i = .int .i64 k ∧ Hid (k = 0 ∨ BookOkM ls) ∧ Hid (ss = foldT (blocksM (ls.take k))) ∧ Hid (wr.ownsRow (w.heap.size + 1) 9 1 o ss.length (scs ss)) ∧ Hid (BBox wr w.heap.size w.heap.size (.slice A n c) ls) ∧ Hid (Below w.heap.size w wr)) (fun _ i _ _ => n - (intOf i).toNat)
  case atStart => exact ⟨0, [], Nat.zero_le _, rfl, Lib.hid (Or.inl rfl), Lib.hid rfl, HO1, XB1, HW1⟩
  case round =>
    obtain ⟨k, ss, hk, rfl, HK0, HSS, HO2, XB2, HW2⟩ := hrel
    clear XB1 HW1 HO1
    have x0 := XB2.out.cell
    go_wp2_with fail
    refine (BookOk_any _ ls _ XB2.out.reads HS.out).mono ?_
    rintro e w3 ⟨rfl, hb⟩
    have HO3 := Lib.hid (own_kept HO2.out (w' := w3) (fun b e => hb.block b (HO2.out.lt b e).2))
    have XB3 := Lib.hid (XB2.out.below hb)
    have HW3 := Lib.hid (HW2.out.trans (hb.mono HW2.out.size))
    clear hb HO2 XB2 HW2 x0
    have x0 := XB3.out.cell
    by_cases hok : BookOkM ls
    case neg =>
      rw [decide_eq_false hok]
      have HE := Lib.hid (show textsM ls = ss from by
        have h0 : k = 0 := HK0.out.resolve_right hok
        rw [HSS.out, h0]
        unfold textsM
        rw [if_neg hok]; rfl)
      clear hok
      go_wp2
      go_ret
      exact ⟨_, rfl, by rw [HE.out]; exact own_base HO3.out (by omega), HW3.out⟩
    case pos =>
    rw [decide_eq_true hok]
    have HOK := Lib.hid hok
    clear hok
    by_cases hlt : k < n
    case neg =>
      have HE := Lib.hid (show textsM ls = ss from by
        rw [HSS.out, List.take_of_length_le (by rw [HL.out]; omega)]
        unfold textsM
        rw [if_pos HOK.out])
      go_wp2
      go_ret
      exact ⟨_, rfl, by rw [HE.out]; exact own_base HO3.out (by omega), HW3.out⟩
    case pos =>
    have hl0 : k < ls.length := by rw [HL.out]; exact hlt
    have hk1 : (k : Int) < (n : Int) := by omega
    go_wp2
    go_loopw [3, 5] (fun o i wr => ∃ (j : Nat) (ss : List ByteArray), j ≤ 8 ∧ i = .int .i64 j ∧ Hid (ss = foldT (blocksM (ls.take k) ++ (ls[k].bs).take j)) ∧ Hid (wr.ownsRow (w.heap.size + 1) 9 1 o ss.length (scs ss)) ∧ Hid (BBox wr w.heap.size w.heap.size (.slice A n c) ls) ∧ Hid (Below w.heap.size w wr)) (fun _ i _ => 8 - (intOf i).toNat)
    case atStart => exact ⟨0, ss, Nat.zero_le _, rfl, Lib.hid (by rw [HSS.out]; simp), HO3, XB3, HW3⟩
    case round =>
      clear HO3 XB3 HW3 x0 HSS HK0
      obtain ⟨j, tt, hj, rfl, HTT, HO4, XB4, HW4⟩ := hrel
      have x0 := XB4.out.cell
      by_cases hj8 : j < 8
      · have hcells := XB4.out.reads.r
        rw [HL.out] at hcells
        obtain ⟨b, off, c', hv, hnc, hcm, hcell⟩ := hcells.form (by omega)
        injection hv with e1 e2 e3
        subst e1 e3
        clear e2 hcells
        unfold maxLen at hcm
        have q0 := (set_read hcell k hl0).blk j hj8
        have hj1 : (j : Int) < 8 := by omega
        have hblw : b < w.heap.size := XB4.out.low b rfl
        have hjl : j < ls[k].bs.length := hj8
        have HT1 := Lib.hid (show blocksM (ls.take k) ++ (ls[k].bs).take (j + 1) = (blocksM (ls.take k) ++ (ls[k].bs).take j) ++ [ls[k].bs[j]] from by rw [List.take_succ_eq_append_getElem hjl, List.append_assoc])
        have HLN := Lib.hid (show tt.length ≤ 1000 from by
          have h1 := foldT_length (blocksM (ls.take k) ++ (ls[k].bs).take j)
          rw [← HTT.out, List.length_append, blocksM_length, List.length_take, List.length_take] at h1
          have := HOK.out.1
          omega)
        obtain ⟨t, HTE⟩ : ∃ t, Hid (ls[k].bs[j] = t) := ⟨_, Lib.hid rfl⟩
        have q1 : _ = some (Value.string t) := HTE.out ▸ q0
        clear q0 hcell
        by_cases ht : t.size = 0
        · have he := eqEmpty ht
          have HT2 := Lib.hid (show tt = foldT (blocksM (ls.take k) ++ (ls[k].bs).take (j + 1)) from by rw [HT1.out, HTE.out, foldT_snoc, if_pos ht, HTT.out])
          clear ht
          go_wp2
          go_roundw
          case rel => exact ⟨j + 1, tt, by omega, by go_num, HT2, HO4, XB4, HW4⟩
          case measure => simp [intOf]; omega
        · have he := neEmpty ht
          have HT2 := Lib.hid (show insM tt t = foldT (blocksM (ls.take k) ++ (ls[k].bs).take (j + 1)) from by rw [HT1.out, HTE.out, foldT_snoc, if_neg ht, HTT.out])
          clear ht
          have hsz := XB4.out.box.lt
          go_wp2_with fail
          refine (l4Insert_any _ tt t (w.heap.size + 1) _ HO4.out (by omega) HLN.out).mono ?_
          rintro e w5 ⟨v5, rfl, ho5, ht5⟩
          have hb5 := ht5.below (B := w.heap.size + 1) (fun b hb _ e => by have := (HO4.out.lt b e).1; omega) (by omega)
          have HO5 := Lib.hid ho5
          have XB5 := Lib.hid (show BBox w5 w.heap.size w.heap.size (.slice (some ⟨b, off, none⟩) n c) ls from ⟨XB4.out.box.below hb5 (by omega), XB4.out.low, ⟨XB4.out.reads.r.below hb5 (fun b e => by have := XB4.out.low b e; omega), fun b e => Nat.lt_of_lt_of_le (XB4.out.reads.l b e) hb5.size⟩, XB4.out.lt⟩)
          have HW5 := Lib.hid (HW4.out.trans (hb5.mono (by omega)))
          clear ho5 ht5 hb5 HO4 XB4 HW4 x0 q1
          go_wp2
          go_roundw
          case rel => exact ⟨j + 1, insM tt t, by omega, by go_num, HT2, HO5, XB5, HW5⟩
          case measure => simp [intOf]; omega
      · have HT2 := Lib.hid (show tt = foldT (blocksM (ls.take (k + 1))) from by
          rw [HTT.out, List.take_succ_eq_append_getElem hl0, blocksM_snoc, show (ls[k].bs).take j = ls[k].bs from List.take_of_length_le (by have : ls[k].bs.length = 8 := rfl; omega)])
        go_wp2
        go_roundw
        case rel => exact ⟨k + 1, tt, by omega, by go_num, Lib.hid (Or.inr HOK.out), HT2, HO4, XB4, HW4⟩
        case measure => simp [intOf]; omega
end Go.Proofs.Ytoeaeckkmpdpiaa
