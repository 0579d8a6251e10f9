/-
  Pointers read: what a text spells, and spec's PtrRead.
-/
import Derived.Test.YtfpplbipnbcpaaaDoorPtrT
import Derived.Test.YtfpplbipnbcpaaaDoorPtrTo
import Derived.Test.YtfpplbipnbcpaaaDoorPtrCut
set_option maxRecDepth 100000
namespace Go.Proofs.YtfpplbipnbcpaaaDoor
open Go.ChangeShapes Go.WideShapes Go.ChangeAt Go.RowKit Go.Proofs.Palim

theorem good_text {p : PtrM} (h : GoodM p) : ptrText p = ⟨(ptrL p).toArray⟩ := by
  unfold ptrText
  rw [if_neg (not_not_intro (show PtrOkM p from Or.inr h)), if_neg (fun hn => by have := h.1; have := hn.1; omega)]
theorem null_text {p : PtrM} (h : NullM p) : ptrText p = ⟨#[45]⟩ := by
  unfold ptrText
  rw [if_neg (not_not_intro (show PtrOkM p from Or.inl h)), if_pos h]
/-- A good pointer's text is three numerals between points. -/
theorem good_dd {p : PtrM} (h : GoodM p) : ∃ a b c : Nat, p = ⟨(a : Int), (b : Int), (c : Int)⟩ ∧ a < 100000000 ∧ b < 100000000 ∧ c < 100000000 ∧ ptrL p = Lib.decDigits a ++ 46 :: (Lib.decDigits b ++ 46 :: Lib.decDigits c) := by
  obtain ⟨x, y, z⟩ := p
  obtain ⟨h1, h2, h3, h4, h5, h6⟩ := h
  simp only at h1 h2 h3 h4 h5 h6
  obtain ⟨a, rfl⟩ : ∃ a : Nat, x = a := ⟨x.toNat, by omega⟩
  obtain ⟨b, rfl⟩ : ∃ b : Nat, y = b := ⟨y.toNat, by omega⟩
  obtain ⟨c, rfl⟩ : ∃ c : Nat, z = c := ⟨z.toNat, by omega⟩
  exact ⟨a, b, c, rfl, by omega, by omega, by omega, by simp only [ptrL, Lib.itoa_nonneg]⟩
/-- The three numbers of a text, as the library reads them. -/
def parseL (l : List UInt8) : Option PtrM :=
  match Lib.atoiAll (Lib.cut l [46]).1, Lib.atoiAll (Lib.cut (Lib.cut l [46]).2.1 [46]).1, Lib.atoiAll (Lib.cut (Lib.cut l [46]).2.1 [46]).2.1 with
  | .ok x, .ok y, .ok z => some ⟨x, y, z⟩
  | _, _, _ => none
theorem parse_good {p : PtrM} (h : GoodM p) : parseL (ptrL p) = some p := by
  obtain ⟨a, b, c, rfl, ha, hb, hc, e⟩ := good_dd h
  rw [e]
  unfold parseL
  rw [cut_at _ _ (dd_point a)]
  simp only
  rw [cut_at _ _ (dd_point b)]
  simp only
  rw [atoi_digs a (by omega), atoi_digs b (by omega), atoi_digs c (by omega)]
theorem pieces_good (a b c : Nat) : pieces (Lib.decDigits a ++ 46 :: (Lib.decDigits b ++ 46 :: Lib.decDigits c)) = [Lib.decDigits a, Lib.decDigits b, Lib.decDigits c] := by
  rw [pieces_cut _ _ (dd_point a), pieces_cut _ _ (dd_point b), pieces_one _ (dd_point c)]
theorem text_inj {p q : PtrM} (hp : PtrOkM p) (hq : PtrOkM q) (h : ptrText p = ptrText q) : p = q := by
  rcases hp with hp | hp <;> rcases hq with hq | hq
  · obtain ⟨a, b, c⟩ := p
    obtain ⟨x, y, z⟩ := q
    obtain ⟨h1, h2, h3⟩ := hp
    obtain ⟨h4, h5, h6⟩ := hq
    simp only at h1 h2 h3 h4 h5 h6
    subst h1 h2 h3 h4 h5 h6
    rfl
  · exfalso
    rw [null_text hp, good_text hq] at h
    have h2 := congrArg (fun b : ByteArray => b.data.toList) h
    have h3 := parse_good hq
    simp only at h2
    rw [← h2] at h3
    have h4 : parseL [45] = none := by decide +kernel
    rw [h4] at h3
    cases h3
  · exfalso
    rw [null_text hq, good_text hp] at h
    have h2 := congrArg (fun b : ByteArray => b.data.toList) h
    have h3 := parse_good hp
    simp only at h2
    rw [h2] at h3
    have h4 : parseL [45] = none := by decide +kernel
    rw [h4] at h3
    cases h3
  · rw [good_text hp, good_text hq] at h
    have h2 := congrArg (fun b : ByteArray => b.data.toList) h
    simp only at h2
    have h3 := parse_good hp
    rw [h2, parse_good hq] at h3
    exact (Option.some.inj h3).symm
open Classical in
/-- The pointer that a text spells. -/
noncomputable def readM (t : ByteArray) : Option PtrM := if h : ∃ p, PtrOkM p ∧ ptrText p = t then some (Classical.choose h) else none
theorem readM_some {p : PtrM} {t : ByteArray} (h : PtrOkM p) (ht : ptrText p = t) : readM t = some p := by
  have hx : ∃ p, PtrOkM p ∧ ptrText p = t := ⟨p, h, ht⟩
  unfold readM
  rw [dif_pos hx]
  have hc := Classical.choose_spec hx
  rw [text_inj hc.1 h (hc.2.trans ht.symm)]
/-- No pointer: none that is good has this text, and it is not the null pointer's. -/
theorem readM_none {t : ByteArray} (hn : t ≠ ⟨#[45]⟩) (h : ∀ p, GoodM p → t.data.toList ≠ ptrL p) : readM t = none := by
  unfold readM
  rw [dif_neg]
  rintro ⟨p, hp | hp, ht⟩
  · exact hn (ht.symm.trans (null_text hp))
  · refine h p hp ?_
    rw [← ht, good_text hp]
theorem ok_of_text {p : PtrM} {t : ByteArray} (h : ptrText p = t) (hz : t.size ≠ 0) : PtrOkM p := by
  by_cases hk : PtrOkM p
  · exact hk
  · unfold ptrText at h
    rw [if_pos hk] at h
    exact absurd (by rw [← h]; rfl) hz

def ReadPost (t : ByteArray) (w : World) (e : Ending) (w' : World) : Prop :=
  Below w.heap.size w w' ∧ ((∃ p, readM t = some p ∧ e = .returned (.tuple #[pv p, .bool true])) ∨ (readM t = none ∧ e = .returned (.tuple #[pv noPtr, .bool false])))
theorem readM_dash : readM ⟨#[45]⟩ = some noPtr := readM_some (p := noPtr) (Or.inl ⟨rfl, rfl, rfl⟩) (null_text ⟨rfl, rfl, rfl⟩)
theorem low_cell {w : World} {v : Value} {n : Nat} {ps : List ByteArray} (h : Sl w 1 v n (scs ps)) (hn : 0 < n) : ∃ b off c, v = .slice (some ⟨b, off, none⟩) n c ∧ n ≤ c ∧ c ≤ maxLen ∧ ∀ j (hj : j < ps.length), w.cell? ⟨b, off + j, none⟩ = some (.string ps[j]) := by
  obtain ⟨b, off, c, hv, h1, h2, h3⟩ := h.form hn
  exact ⟨b, off, c, hv, h1, h2, fun j hj => h3 j _ (scs_at ps j hj)⟩
theorem ptrText_is (p : PtrM) (w : World) (t : ByteArray) (h : ptrText p = t) :
    Calls Tryd.prog 41 #[pv p] w fun e w' => e = .returned (.string t) ∧ Below w.heap.size w w' := h ▸ specPtrText_any p w
theorem ne_dash {t : ByteArray} (h : t ≠ ⟨#[45]⟩) : (t.toList == [45]) = false := by
  rw [ByteArray.toList_eq]
  refine beq_eq_false_iff_ne.2 fun e => h ?_
  apply ByteArray.ext
  apply Array.ext'
  exact e
theorem ne_text {a b : ByteArray} (h : a ≠ b) : (a.toList == b.toList) = false := by
  rw [ByteArray.toList_eq, ByteArray.toList_eq]
  refine beq_eq_false_iff_ne.2 fun e => h ?_
  apply ByteArray.ext
  exact Array.ext' e

set_option maxHeartbeats 2000000 in
theorem specPtrRead_any (t : ByteArray) (w : World) (ht : t.size ≤ 1048576) :
    Calls Tryd.prog 25 #[.string t] w (ReadPost t w) := by
  have hnot : ∀ (x : Bool) (w : World), (Op.unary .not (.bool x)).run Tryd.prog w = .ok (.bool (!x)) w := fun _ _ => rfl
  have X0 := Lib.hid (box_new w #[.int .i64 0, .int .i64 0, .int .i64 0] 29)
  have B0 := Lib.hid (Below.new (w := w) (.cells #[.int .i64 0, .int .i64 0, .int .i64 0] 29))
  by_cases hd : t = ⟨#[45]⟩
  · subst hd
    go_enter Tryd.func25, Tryd.ntmps25
    go_wp2
    refine bodyPost_ret (v := .tuple #[pv noPtr, .bool true]) (by simp [results, Tryd.results25, go_sem, noPtr]) rfl ⟨B0.out, Or.inl ⟨noPtr, readM_dash, rfl⟩⟩
  have hcmp := ne_dash hd
  have HDN := Lib.hid hd
  clear hd
  go_enter Tryd.func25, Tryd.ntmps25
  go_wp2_with fail
  refine (l19Cut_any t _ ht).mono ?_
  rintro e w1 ⟨v, ps, rfl, hps, hsl, hlow, hb, hlen, hz⟩
  have X1 := Lib.hid (X0.out.below hb X0.out.lt)
  have B1 := Lib.hid (B0.out.trans (hb.mono B0.out.size))
  have HPS := Lib.hid hps
  have HZ := Lib.hid hz
  clear hb X0 B0 hps hz
  by_cases h30 : 30 < t.size
  · have HNO := Lib.hid (readM_none HDN.out (fun p hp e => by
      obtain ⟨a, b, c, rfl, ha, hb, hc, el⟩ := good_dd hp
      have h1 := dd_len 7 a (by omega)
      have h2 := dd_len 7 b (by omega)
      have h3 := dd_len 7 c (by omega)
      rw [el] at e
      have := congrArg List.length e
      rw [← size_list] at this
      simp at this
      omega))
    obtain ⟨_, A, c, rfl, _⟩ := hsl
    obtain ⟨r0, r1, r2⟩ := X1.out.three
    have f0 := X1.out.open_ 0
    have f1 := X1.out.open_ 1
    have f2 := X1.out.open_ 2
    have Q1 := Lib.hid (X1.out.set 0 (.int .i64 0))
    have Q2 := Lib.hid (Q1.out.set 1 (.int .i64 0))
    have Q3 := Lib.hid (Q2.out.set 2 (.int .i64 0))
    go_wp2
    refine bodyPost_ret (v := .tuple #[pv noPtr, .bool false]) (by simp [results, Tryd.results25, go_sem, noPtr, Q1.out.cell 0 rfl, Q2.out.cell 1 rfl, Q3.out.cell 2 rfl]) rfl ⟨((B1.out.setCell (by simp) _).setCell (by simp) _).setCell (by simp) _, Or.inr ⟨HNO.out, rfl⟩⟩
  by_cases hl3 : ps.length = 3
  · obtain ⟨p0, p1, p2, rfl⟩ : ∃ p0 p1 p2, ps = [p0, p1, p2] := by
      match ps, hl3 with
      | [a, b, c], _ => exact ⟨a, b, c, rfl⟩
    obtain ⟨bb, off, c, rfl, hc1, hc2, hcell⟩ := low_cell hsl (by simp)
    have c0 := hcell 0 (by simp)
    have c1 := hcell 1 (by simp)
    have c2 := hcell 2 (by simp)
    have z0 : p0.size ≤ 1000000 := by have := HZ.out p0 (by simp); omega
    have z1 : p1.size ≤ 1000000 := by have := HZ.out p1 (by simp); omega
    have z2 : p2.size ≤ 1000000 := by have := HZ.out p2 (by simp); omega
    simp only [List.getElem_cons_zero, List.getElem_cons_succ, Nat.add_zero] at c0 c1 c2
    simp only [List.length_cons, List.length_nil, Nat.zero_add, Nat.reduceAdd] at hc1 c0 c1 c2
    clear hcell hsl hl3
    -- what a good pointer's text would say
    have HG := Lib.hid (show ∀ p, GoodM p → t.data.toList = ptrL p → ∃ a b c : Nat, p = ⟨(a : Int), (b : Int), (c : Int)⟩ ∧ a < 100000000 ∧ b < 100000000 ∧ c < 100000000 ∧ p0.data.toList = Lib.decDigits a ∧ p1.data.toList = Lib.decDigits b ∧ p2.data.toList = Lib.decDigits c from fun p hp e => by
      obtain ⟨a, b, c, he, ha, hb, hc, el⟩ := good_dd hp
      have h1 := HPS.out
      rw [e, el, pieces_good] at h1
      simp at h1
      exact ⟨a, b, c, he, ha, hb, hc, h1.1, h1.2.1, h1.2.2⟩)
    go_wp2_with fail
    refine (l19Num_any p0 _ z0).mono ?_
    rintro e w2 ⟨n0, b0, rfl, rfl, h0⟩
    go_wp2_with fail
    refine (l19Num_any p1 _ z1).mono ?_
    rintro e w2 ⟨n1, b1, rfl, rfl, h1⟩
    go_wp2_with fail
    refine (l19Num_any p2 _ z2).mono ?_
    rintro e w2 ⟨n2, b2, rfl, rfl, h2⟩
    have HN := Lib.hid (show ∀ p, GoodM p → t.data.toList = ptrL p → b0 = true ∧ b1 = true ∧ b2 = true ∧ p = ⟨n0, n1, n2⟩ from fun p hp e => by
      obtain ⟨a, b, c, rfl, ha, hb, hc, e0, e1, e2⟩ := HG.out p hp e
      obtain ⟨r0, s0⟩ := h0 a ha e0
      obtain ⟨r1, s1⟩ := h1 b hb e1
      obtain ⟨r2, s2⟩ := h2 c hc e2
      subst r0 r1 r2
      exact ⟨s0, s1, s2, rfl⟩)
    clear h0 h1 h2 HG c0 c1 c2
    have hlt1 := X1.out.lt
    have X2 := Lib.hid (X1.out.alloc (.cells #[.int .i64 n0, .int .i64 n1, .int .i64 n2] 29))
    have XP := Lib.hid (box_new w1 #[.int .i64 n0, .int .i64 n1, .int .i64 n2] 29)
    have B2 := Lib.hid (B1.out.alloc B1.out.size (.cells #[.int .i64 n0, .int .i64 n1, .int .i64 n2] 29))
    go_upto_region 10 with fail
    generalize w1.alloc (.cells #[.int .i64 n0, .int .i64 n1, .int .i64 n2] 29) = W2 at X2 XP B2 ⊢
    obtain ⟨y0, y1, y2⟩ := XP.out.three
    by_cases hall : b0 = true ∧ b1 = true ∧ b2 = true
    · obtain ⟨rfl, rfl, rfl⟩ := hall
      obtain ⟨tp, HTP⟩ : ∃ tp, Hid (ptrText ⟨n0, n1, n2⟩ = tp) := ⟨_, Lib.hid rfl⟩
      go_wp2_with fail
      refine (ptrText_is ⟨n0, n1, n2⟩ _ tp HTP.out).mono ?_
      rintro e w3 ⟨rfl, hb⟩
      have X3 := Lib.hid (X2.out.below hb X2.out.lt)
      have XP3 := Lib.hid (XP.out.below hb XP.out.lt)
      have B3 := Lib.hid (B2.out.trans (hb.mono B2.out.size))
      clear hb X1 X2 XP B1 B2 y0 y1 y2
      by_cases heq : tp = t
      · subst heq
        have HSOME := Lib.hid (readM_some (ok_of_text HTP.out (by
          intro h0
          have := HPS.out
          have e0 : tp.data.toList = [] := List.eq_nil_of_length_eq_zero (by rw [← size_list]; exact h0)
          rw [e0] at this
          simp [pieces] at this)) HTP.out)
        obtain ⟨r0, r1, r2⟩ := X3.out.three
        have f0 := X3.out.open_ 0
        have f1 := X3.out.open_ 1
        have f2 := X3.out.open_ 2
        obtain ⟨y0, y1, y2⟩ := XP3.out.three
        have Q1 := Lib.hid (X3.out.set 0 (.int .i64 n0))
        have Q2 := Lib.hid (Q1.out.set 1 (.int .i64 n1))
        have Q3 := Lib.hid (Q2.out.set 2 (.int .i64 n2))
        go_wp2
        refine bodyPost_ret (v := .tuple #[pv ⟨n0, n1, n2⟩, .bool true]) (by simp [results, Tryd.results25, go_sem, Q1.out.cell 0 rfl, Q2.out.cell 1 rfl, Q3.out.cell 2 rfl]) rfl ⟨((B3.out.setCell (by simp) _).setCell (by simp) _).setCell (by simp) _, Or.inl ⟨_, HSOME.out, rfl⟩⟩
      · have HNO := Lib.hid (readM_none HDN.out (fun p hp e => heq (by
          obtain ⟨_, _, _, h4⟩ := HN.out p hp e
          rw [← HTP.out, ← h4, good_text hp]
          apply ByteArray.ext
          exact Array.ext' (by simpa using e.symm))))
        have hcmp2 := ne_text heq
        obtain ⟨r0, r1, r2⟩ := X3.out.three
        have f0 := X3.out.open_ 0
        have f1 := X3.out.open_ 1
        have f2 := X3.out.open_ 2
        have Q1 := Lib.hid (X3.out.set 0 (.int .i64 0))
        have Q2 := Lib.hid (Q1.out.set 1 (.int .i64 0))
        have Q3 := Lib.hid (Q2.out.set 2 (.int .i64 0))
        go_wp2
        refine bodyPost_ret (v := .tuple #[pv noPtr, .bool false]) (by simp [results, Tryd.results25, go_sem, noPtr, Q1.out.cell 0 rfl, Q2.out.cell 1 rfl, Q3.out.cell 2 rfl]) rfl ⟨((B3.out.setCell (by simp) _).setCell (by simp) _).setCell (by simp) _, Or.inr ⟨HNO.out, rfl⟩⟩
    · have HNO := Lib.hid (readM_none HDN.out (fun p hp e => hall (by
        obtain ⟨h1, h2, h3, _⟩ := HN.out p hp e
        exact ⟨h1, h2, h3⟩)))
      have hb3 : b0 = false ∨ (b0 = true ∧ b1 = false) ∨ (b0 = true ∧ b1 = true ∧ b2 = false) := by cases b0 <;> cases b1 <;> cases b2 <;> simp_all
      clear hall
      rcases hb3 with rfl | ⟨rfl, rfl⟩ | ⟨rfl, rfl, rfl⟩
      all_goals
        obtain ⟨r0, r1, r2⟩ := X2.out.three
        have f0 := X2.out.open_ 0
        have f1 := X2.out.open_ 1
        have f2 := X2.out.open_ 2
        have Q1 := Lib.hid (X2.out.set 0 (.int .i64 0))
        have Q2 := Lib.hid (Q1.out.set 1 (.int .i64 0))
        have Q3 := Lib.hid (Q2.out.set 2 (.int .i64 0))
        go_wp2
        refine bodyPost_ret (v := .tuple #[pv noPtr, .bool false]) (by simp [results, Tryd.results25, go_sem, noPtr, Q1.out.cell 0 rfl, Q2.out.cell 1 rfl, Q3.out.cell 2 rfl]) rfl ⟨((B2.out.setCell (by simp) _).setCell (by simp) _).setCell (by simp) _, Or.inr ⟨HNO.out, rfl⟩⟩
  · have HNO := Lib.hid (readM_none HDN.out (fun p hp e => hl3 (by
      obtain ⟨a, b, c, rfl, ha, hb, hc, el⟩ := good_dd hp
      have h1 := HPS.out
      rw [e, el, pieces_good] at h1
      have := congrArg List.length h1
      simpa using this)))
    have hl3' : ((ps.length : Int) != 3) = true := bne_iff_ne.2 (by omega)
    obtain ⟨_, A, c, rfl, _⟩ := hsl
    obtain ⟨r0, r1, r2⟩ := X1.out.three
    have f0 := X1.out.open_ 0
    have f1 := X1.out.open_ 1
    have f2 := X1.out.open_ 2
    have Q1 := Lib.hid (X1.out.set 0 (.int .i64 0))
    have Q2 := Lib.hid (Q1.out.set 1 (.int .i64 0))
    have Q3 := Lib.hid (Q2.out.set 2 (.int .i64 0))
    go_wp2
    refine bodyPost_ret (v := .tuple #[pv noPtr, .bool false]) (by simp [results, Tryd.results25, go_sem, noPtr, Q1.out.cell 0 rfl, Q2.out.cell 1 rfl, Q3.out.cell 2 rfl]) rfl ⟨((B1.out.setCell (by simp) _).setCell (by simp) _).setCell (by simp) _, Or.inr ⟨HNO.out, rfl⟩⟩
end Go.Proofs.YtfpplbipnbcpaaaDoor
