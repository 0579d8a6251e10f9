/-
  The core as data; the laws' helpers on it.
-/
import Derived.Test.YtobjgdnmlibofaaGreatCSetS
import Derived.Test.YtobjgdnmlibofaaGreatIntS
import Derived.Test.YtobjgdnmlibofaaGreatDdtS
set_option maxRecDepth 100000
namespace Go.Proofs.YtobjgdnmlibofaaGreat
open Go.ChangeShapes Go.WideShapes Go.ChangeAt Go.RowKit Go.Proofs.Palim

structure CoreM where
  txg : Int
  sets : List CSetM
  ddt : List EntM
  parts : List PtrM
  dirty : Bool
  safe : List Int
  logn : Int
/-- Its cells. -/
abbrev kcore (c : CoreM) (vs vd vp vi : Value) : List Value := [.int .i64 c.txg, vs, vd, vp, .bool c.dirty, vi, .int .i64 c.logn]
abbrev cv (c : CoreM) (vs vd vp vi : Value) : Value := .agg #[.int .i64 c.txg, vs, vd, vp, .bool c.dirty, vi, .int .i64 c.logn]
structure CoreR (w : World) (vs vd vp vi : Value) (c : CoreM) : Prop where
  s : Sl w 31 vs c.sets.length (ccs c.sets)
  d : Sl w 3 vd c.ddt.length (ecs c.ddt)
  p : Sl w 3 vp c.parts.length (pcs c.parts)
  i : Sl w 1 vi c.safe.length (ics c.safe)
  ls : Low w.heap.size vs
  ld : Low w.heap.size vd
  lp : Low w.heap.size vp
  li : Low w.heap.size vi
theorem CoreR.below {w w' : World} {vs vd vp vi : Value} {c : CoreM} (h : CoreR w vs vd vp vi c) (hb : Below w.heap.size w w') : CoreR w' vs vd vp vi c :=
  ⟨h.s.below hb h.ls, h.d.below hb h.ld, h.p.below hb h.lp, h.i.below hb h.li, h.ls.mono hb.size, h.ld.mono hb.size, h.lp.mono hb.size, h.li.mono hb.size⟩
structure CoreShort (c : CoreM) : Prop where
  s : c.sets.length ≤ 1048576
  d : c.ddt.length ≤ 1048576
  p : c.parts.length ≤ 1048576
  i : c.safe.length ≤ 1048576
  z : ∀ x ∈ c.sets, x.name.size ≤ 1048576 ∧ x.frm.size ≤ 1048576
theorem CoreR.forms {w : World} {vs vd vp vi : Value} {c : CoreM} (h : CoreR w vs vd vp vi c) : ∃ A0 c0 A1 c1 A2 c2 A3 c3, vs = .slice A0 c.sets.length c0 ∧ vd = .slice A1 c.ddt.length c1 ∧ vp = .slice A2 c.parts.length c2 ∧ vi = .slice A3 c.safe.length c3 := by
  obtain ⟨_, A0, c0, e0, _⟩ := h.s
  obtain ⟨_, A1, c1, e1, _⟩ := h.d
  obtain ⟨_, A2, c2, e2, _⟩ := h.p
  obtain ⟨_, A3, c3, e3, _⟩ := h.i
  exact ⟨A0, c0, A1, c1, A2, c2, A3, c3, e0, e1, e2, e3⟩
def NewCore (w : World) (c : CoreM) (e : Ending) (w' : World) : Prop :=
  ∃ vs vd vp vi, e = .returned (cv c vs vd vp vi) ∧ CoreR w' vs vd vp vi c ∧ Below w.heap.size w w'
theorem aggCore : Agg Tryz.prog 44 7 := ⟨Tryz.isAgg44, Tryz.sizeOf44⟩
theorem toIntS_b (v : Value) (ss : List Int) (w : World) (h : Sl w 1 v ss.length (ics ss)) (hs : ss.length ≤ 1048576) :
    Calls Tryz.prog 17 #[v] w fun e w' => ∃ v, e = .returned v ∧ w'.ownsRow w.heap.size 3 1 v ss.length (ics ss) ∧ Below w.heap.size w w' := toIntS_any v ss w h hs
theorem eqIntS_b (va vb : Value) (ss : List Int) (w : World) (ha : Sl w 1 va ss.length (ics ss)) (hb : Sl w 1 vb ss.length (ics ss)) (hs : ss.length ≤ 1048576) :
    Calls Tryz.prog 19 #[va, vb] w fun e w' => e = .returned (.bool true) ∧ Below w.heap.size w w' := by
  refine (eqIntS_same va vb ss w ha hb hs).mono ?_
  rintro e w' ⟨rfl, q, rfl⟩
  exact ⟨rfl, ⟨rfl, rfl, rfl, Nat.le_refl _, fun _ _ => rfl⟩⟩

set_option maxHeartbeats 400000 in
theorem szIntS_any (v : Value) (n : Nat) (xs : List Value) (left : Int) (w : World) (h : Sl w 1 v n xs) (h0 : 0 ≤ left) (h1 : left ≤ 1048576) :
    Calls Tryz.prog 50 #[v, .int .i64 left] w fun e w' => e = .returned (.int .i64 (if left < n then -1 else left - n)) ∧ Below w.heap.size w w' := by
  have hnm := h.le
  unfold maxLen at hnm
  obtain ⟨_, A, c, rfl, _, _, _⟩ := h
  by_cases hl : left < n
  · rw [if_pos hl]
    go_enter Tryz.func50, Tryz.ntmps50
    go_wp2
    go_ret
    exact ⟨rfl, Below.refl _ _⟩
  · rw [if_neg hl]
    go_enter Tryz.func50, Tryz.ntmps50
    go_wp2
    go_ret
    exact ⟨rfl, Below.refl _ _⟩

/-- How much of the room sets take. -/
def cszs (ls : List CSetM) : Nat := (ls.map csz).sum
theorem cszs_snoc (a : List CSetM) (x : CSetM) : cszs (a ++ [x]) = cszs a + csz x := by simp [cszs]
set_option maxHeartbeats 2000000 in
theorem szCoreSetS_any (v : Value) (ls : List CSetM) (left : Int) (w : World) (h : Sl w 31 v ls.length (ccs ls)) (hv : Low w.heap.size v) (hz : ∀ x ∈ ls, x.name.size ≤ maxLen ∧ x.frm.size ≤ maxLen) (h0 : 0 ≤ left) (h1 : left ≤ 1048576) :
    Calls Tryz.prog 47 #[v, .int .i64 left] w fun e w' => (∃ r : Int, e = .returned (.int .i64 r) ∧ (r = -1 ∨ 0 ≤ r ∧ r + (ls.length + cszs ls : Nat) = left)) ∧ Below w.heap.size w w' := by
  have hnm := h.le
  unfold maxLen at hnm
  have HZ := Lib.hid hz
  obtain ⟨n, HN⟩ : ∃ n, Hid (ls.length = n) := ⟨_, Lib.hid rfl⟩
  rw [HN.out] at h hnm ⊢
  have HS := Lib.hid h
  have HV := Lib.hid hv
  obtain ⟨_, A, c, rfl, _, _, _⟩ := h
  clear hz hv
  by_cases hl : left < n
  · go_enter Tryz.func47, Tryz.ntmps47
    go_wp2
    go_ret
    exact ⟨⟨-1, rfl, Or.inl rfl⟩, Below.refl _ _⟩
  have hl2 : ¬ (left - (n : Int) < 0) := by omega
  go_enter Tryz.func47, Tryz.ntmps47
  go_wp2
  go_loopw [1, 5] (fun l i wr => ∃ (k : Nat) (r : Int), k ≤ n ∧ l = .int .i64 r ∧ i = .int .i64 k ∧ 0 ≤ r ∧ r ≤ 1048576 ∧ Hid (r + (n + cszs (ls.take k) : Nat) = left) ∧ Hid (Below w.heap.size w wr)) (fun _ i _ => n - (intOf i).toNat)
  case atStart => exact ⟨0, left - n, Nat.zero_le _, rfl, rfl, by omega, by omega, Lib.hid (by simp [cszs]), Lib.hid (Below.refl _ _)⟩
  case round =>
    obtain ⟨k, r, hk, rfl, rfl, hr0, hr1, HR, HB⟩ := hrel
    by_cases hlt : k < n
    case pos =>
      have hlt' : k < ls.length := by rw [HN.out]; exact hlt
      have hk1 : (k : Int) < (n : Int) := by omega
      obtain ⟨b, off, c', hv', _, _, hcell⟩ := (HS.out.below HB.out HV.out).form (by omega)
      injection hv' with e1 e2 e3
      subst e1 e3
      clear e2
      have HRD := Lib.hid (cset_read hcell k hlt')
      have HT := Lib.hid (show cszs (ls.take (k + 1)) = cszs (ls.take k) + csz ls[k] from by rw [List.take_succ_eq_append_getElem hlt', cszs_snoc])
      have hzk := HZ.out _ (List.getElem_mem hlt')
      generalize ls[k] = x at HRD HT hzk
      clear hcell
      go_wp2_with (refine wpList_load_cs rfl _ rfl aggSetL rfl (cc x) (cc_length x) HRD.out ?_)
      refine (szCoreSet_any x r _ hzk.1 hzk.2 hr0 hr1).mono ?_
      rintro e w2 ⟨⟨r2, rfl, hr2⟩, hb2⟩
      have HB2 := Lib.hid (HB.out.trans (hb2.mono HB.out.size))
      clear hb2 HB HRD
      rcases hr2 with rfl | ⟨hr3, hr4⟩
      · go_wp2
        go_ret
        exact ⟨⟨-1, rfl, Or.inl rfl⟩, HB2.out⟩
      · have hr5 : ¬ r2 < 0 := by omega
        have HR2 := Lib.hid (show r2 + (n + cszs (ls.take (k + 1)) : Nat) = left from by have h1 := HR.out; have h2 := HT.out; rw [h2]; omega)
        have hr6 : r2 ≤ 1048576 := by omega
        clear hr4 HR HT
        go_wp2
        go_roundw
        case rel => exact ⟨k + 1, r2, by omega, rfl, by go_num, hr3, hr6, HR2, HB2⟩
        case measure => simp [intOf]; omega
    case neg =>
      have HK := Lib.hid (show ls.take k = ls from List.take_of_length_le (by rw [HN.out]; omega))
      have HR2 := Lib.hid (show r + (n + cszs ls : Nat) = left from by have h1 := HR.out; rw [HK.out] at h1; exact h1)
      clear HR HK
      go_wp2
      go_ret
      exact ⟨⟨r, rfl, Or.inr ⟨hr0, HR2.out⟩⟩, HB.out⟩

set_option maxHeartbeats 2000000 in
theorem toCore_any (vs vd vp vi : Value) (c : CoreM) (w : World) (h : CoreR w vs vd vp vi c) (hs : CoreShort c) :
    Calls Tryz.prog 28 #[cv c vs vd vp vi] w (NewCore w c) := by
  obtain ⟨b1, b2, b3, hsz, hB⟩ := box3 w #[.int .i64 c.txg, vs, vd, vp, .bool c.dirty, vi, .int .i64 c.logn] #[.int .i64 0, .slice none 0 0, .slice none 0 0, .slice none 0 0, .bool false, .slice none 0 0, .int .i64 0] #[.int .i64 0, .slice none 0 0, .slice none 0 0, .slice none 0 0, .bool false, .slice none 0 0, .int .i64 0] 32 44 44
  have X1 := Lib.hid b1
  have X2 := Lib.hid b2
  have X3 := Lib.hid b3
  have B0 := Lib.hid hB
  have HR := Lib.hid h
  have HS := Lib.hid hs
  obtain ⟨A0, k0, A1, k1, A2, k2, A3, k3, rfl, rfl, rfl, rfl⟩ := h.forms
  clear b1 b2 b3 hB hsz h hs
  go_enter Tryz.func28, Tryz.ntmps28
  go_upto_region 2 with fail
  generalize ((w.alloc (.cells #[.int .i64 c.txg, .slice A0 c.sets.length k0, .slice A1 c.ddt.length k1, .slice A2 c.parts.length k2, .bool c.dirty, .slice A3 c.safe.length k3, .int .i64 c.logn] 32)).alloc (.cells #[.int .i64 0, .slice none 0 0, .slice none 0 0, .slice none 0 0, .bool false, .slice none 0 0, .int .i64 0] 44)).alloc (.cells #[.int .i64 0, .slice none 0 0, .slice none 0 0, .slice none 0 0, .bool false, .slice none 0 0, .int .i64 0] 44) = W at X1 X2 X3 B0 ⊢
  have n0 := X1.out.cell 0 rfl
  have c0 := X3.out.cell 0 rfl
  have f0 := X3.out.open_ 0
  have Y1 := Lib.hid (X1.out.other (p := ⟨w.heap.size + 1 + 1, 0, none⟩) (by simp; omega) (.int .i64 c.txg))
  have Y2 := Lib.hid (X2.out.other (p := ⟨w.heap.size + 1 + 1, 0, none⟩) (by simp) (.int .i64 c.txg))
  have Y3 := Lib.hid (show Box (W.setCell ⟨w.heap.size + 1 + 1, 0, none⟩ (.int .i64 c.txg)) (w.heap.size + 1 + 1) [.int .i64 c.txg, .slice none 0 0, .slice none 0 0, .slice none 0 0, .bool false, .slice none 0 0, .int .i64 0] from X3.out.set 0 (.int .i64 c.txg))
  have B1 := Lib.hid (B0.out.setCell (p := ⟨w.heap.size + 1 + 1, 0, none⟩) (by simp; omega) (.int .i64 c.txg))
  clear X1 X2 X3 B0
  go_upto_region 3 with fail
  generalize W.setCell ⟨w.heap.size + 1 + 1, 0, none⟩ (.int .i64 c.txg) = W0 at Y1 Y2 Y3 B1 ⊢
  clear c0 f0 n0
  have X1 := Y1
  have X2 := Y2
  have X3 := Y3
  have B0 := B1
  clear Y1 Y2 Y3 B1
  have n1 := X1.out.cell 1 rfl
  have hl1 : w.heap.size + 1 + 1 < W0.heap.size := X3.out.lt
  go_wp2_with fail
  refine (toCoreSetS_any _ c.sets _ (HR.out.s.below B0.out (fun b e => HR.out.ls b e)) (fun b e => Nat.lt_of_lt_of_le (HR.out.ls b e) B0.out.size) HS.out.s).mono ?_
  rintro e wc1 ⟨us, rfl, hown, hb⟩
  have O1 := Lib.hid hown
  obtain ⟨_, E1, d1, rfl, _, _, _⟩ := sl_of_own hown
  have Y1 := Lib.hid (X1.out.below hb X1.out.lt)
  have Y2 := Lib.hid (X2.out.below hb X2.out.lt)
  have Y3 := Lib.hid (X3.out.below hb X3.out.lt)
  have B1 := Lib.hid (B0.out.trans (hb.mono B0.out.size))
  clear hb hown X1 X2 X3 B0 n1
  have X1 := Y1
  have X2 := Y2
  have X3 := Y3
  have B0 := B1
  clear Y1 Y2 Y3 B1
  have c1 := X3.out.cell 1 rfl
  have f1 := X3.out.open_ 1
  have Y1 := Lib.hid (X1.out.other (p := ⟨w.heap.size + 1 + 1, 1, none⟩) (by simp; omega) (.slice E1 c.sets.length d1))
  have Y2 := Lib.hid (X2.out.other (p := ⟨w.heap.size + 1 + 1, 1, none⟩) (by simp) (.slice E1 c.sets.length d1))
  have Y3 := Lib.hid (show Box (wc1.setCell ⟨w.heap.size + 1 + 1, 1, none⟩ (.slice E1 c.sets.length d1)) (w.heap.size + 1 + 1) [.int .i64 c.txg, .slice E1 c.sets.length d1, .slice none 0 0, .slice none 0 0, .bool false, .slice none 0 0, .int .i64 0] from X3.out.set 1 (.slice E1 c.sets.length d1))
  have B1 := Lib.hid (B0.out.setCell (p := ⟨w.heap.size + 1 + 1, 1, none⟩) (by simp; omega) (.slice E1 c.sets.length d1))
  clear X1 X2 X3 B0
  have O1n := Lib.hid (own_kept O1.out (w' := wc1.setCell ⟨w.heap.size + 1 + 1, 1, none⟩ (.slice E1 c.sets.length d1)) (fun b e => Below.heap_setCell _ _ _ _ (by have := (O1.out.lt b e).1; simp; omega)))
  clear O1
  go_upto_region 4 with fail
  generalize wc1.setCell ⟨w.heap.size + 1 + 1, 1, none⟩ (.slice E1 c.sets.length d1) = W1 at Y1 Y2 Y3 B1 O1n ⊢
  clear c1 f1
  have O1 := O1n
  clear O1n
  have X1 := Y1
  have X2 := Y2
  have X3 := Y3
  have B0 := B1
  clear Y1 Y2 Y3 B1
  have n2 := X1.out.cell 2 rfl
  have hl2 : w.heap.size + 1 + 1 < W1.heap.size := X3.out.lt
  go_wp2_with fail
  refine (toDdtEntryS_any _ c.ddt _ (HR.out.d.below B0.out (fun b e => HR.out.ld b e)) (fun b e => Nat.lt_of_lt_of_le (HR.out.ld b e) B0.out.size) HS.out.d).mono ?_
  rintro e wc2 ⟨ud, rfl, hown, hb⟩
  have O2 := Lib.hid hown
  obtain ⟨_, E2, d2, rfl, _, _, _⟩ := sl_of_own hown
  have Y1 := Lib.hid (X1.out.below hb X1.out.lt)
  have Y2 := Lib.hid (X2.out.below hb X2.out.lt)
  have Y3 := Lib.hid (X3.out.below hb X3.out.lt)
  have B1 := Lib.hid (B0.out.trans (hb.mono B0.out.size))
  have O1n := Lib.hid (own_kept O1.out (w' := wc2) (fun b e => hb.block b (O1.out.lt b e).2))
  clear O1
  clear hb hown X1 X2 X3 B0 n2
  have X1 := Y1
  have X2 := Y2
  have X3 := Y3
  have B0 := B1
  clear Y1 Y2 Y3 B1
  have O1 := O1n
  clear O1n
  have c2 := X3.out.cell 2 rfl
  have f2 := X3.out.open_ 2
  have Y1 := Lib.hid (X1.out.other (p := ⟨w.heap.size + 1 + 1, 2, none⟩) (by simp; omega) (.slice E2 c.ddt.length d2))
  have Y2 := Lib.hid (X2.out.other (p := ⟨w.heap.size + 1 + 1, 2, none⟩) (by simp) (.slice E2 c.ddt.length d2))
  have Y3 := Lib.hid (show Box (wc2.setCell ⟨w.heap.size + 1 + 1, 2, none⟩ (.slice E2 c.ddt.length d2)) (w.heap.size + 1 + 1) [.int .i64 c.txg, .slice E1 c.sets.length d1, .slice E2 c.ddt.length d2, .slice none 0 0, .bool false, .slice none 0 0, .int .i64 0] from X3.out.set 2 (.slice E2 c.ddt.length d2))
  have B1 := Lib.hid (B0.out.setCell (p := ⟨w.heap.size + 1 + 1, 2, none⟩) (by simp; omega) (.slice E2 c.ddt.length d2))
  clear X1 X2 X3 B0
  have O1n := Lib.hid (own_kept O1.out (w' := wc2.setCell ⟨w.heap.size + 1 + 1, 2, none⟩ (.slice E2 c.ddt.length d2)) (fun b e => Below.heap_setCell _ _ _ _ (by have := (O1.out.lt b e).1; simp; omega)))
  clear O1
  have O2n := Lib.hid (own_kept O2.out (w' := wc2.setCell ⟨w.heap.size + 1 + 1, 2, none⟩ (.slice E2 c.ddt.length d2)) (fun b e => Below.heap_setCell _ _ _ _ (by have := (O2.out.lt b e).1; simp; omega)))
  clear O2
  go_upto_region 5 with fail
  generalize wc2.setCell ⟨w.heap.size + 1 + 1, 2, none⟩ (.slice E2 c.ddt.length d2) = W2 at Y1 Y2 Y3 B1 O1n O2n ⊢
  clear c2 f2
  have O1 := O1n
  clear O1n
  have O2 := O2n
  clear O2n
  have X1 := Y1
  have X2 := Y2
  have X3 := Y3
  have B0 := B1
  clear Y1 Y2 Y3 B1
  have n3 := X1.out.cell 3 rfl
  have hl3 : w.heap.size + 1 + 1 < W2.heap.size := X3.out.lt
  go_wp2_with fail
  refine (toPtrS_any _ c.parts _ (HR.out.p.below B0.out (fun b e => HR.out.lp b e)) (fun b e => Nat.lt_of_lt_of_le (HR.out.lp b e) B0.out.size) HS.out.p).mono ?_
  rintro e wc3 ⟨up, rfl, hown, hb⟩
  have O3 := Lib.hid hown
  obtain ⟨_, E3, d3, rfl, _, _, _⟩ := sl_of_own hown
  have Y1 := Lib.hid (X1.out.below hb X1.out.lt)
  have Y2 := Lib.hid (X2.out.below hb X2.out.lt)
  have Y3 := Lib.hid (X3.out.below hb X3.out.lt)
  have B1 := Lib.hid (B0.out.trans (hb.mono B0.out.size))
  have O1n := Lib.hid (own_kept O1.out (w' := wc3) (fun b e => hb.block b (O1.out.lt b e).2))
  clear O1
  have O2n := Lib.hid (own_kept O2.out (w' := wc3) (fun b e => hb.block b (O2.out.lt b e).2))
  clear O2
  clear hb hown X1 X2 X3 B0 n3
  have X1 := Y1
  have X2 := Y2
  have X3 := Y3
  have B0 := B1
  clear Y1 Y2 Y3 B1
  have O1 := O1n
  clear O1n
  have O2 := O2n
  clear O2n
  have c3 := X3.out.cell 3 rfl
  have f3 := X3.out.open_ 3
  have Y1 := Lib.hid (X1.out.other (p := ⟨w.heap.size + 1 + 1, 3, none⟩) (by simp; omega) (.slice E3 c.parts.length d3))
  have Y2 := Lib.hid (X2.out.other (p := ⟨w.heap.size + 1 + 1, 3, none⟩) (by simp) (.slice E3 c.parts.length d3))
  have Y3 := Lib.hid (show Box (wc3.setCell ⟨w.heap.size + 1 + 1, 3, none⟩ (.slice E3 c.parts.length d3)) (w.heap.size + 1 + 1) [.int .i64 c.txg, .slice E1 c.sets.length d1, .slice E2 c.ddt.length d2, .slice E3 c.parts.length d3, .bool false, .slice none 0 0, .int .i64 0] from X3.out.set 3 (.slice E3 c.parts.length d3))
  have B1 := Lib.hid (B0.out.setCell (p := ⟨w.heap.size + 1 + 1, 3, none⟩) (by simp; omega) (.slice E3 c.parts.length d3))
  clear X1 X2 X3 B0
  have O1n := Lib.hid (own_kept O1.out (w' := wc3.setCell ⟨w.heap.size + 1 + 1, 3, none⟩ (.slice E3 c.parts.length d3)) (fun b e => Below.heap_setCell _ _ _ _ (by have := (O1.out.lt b e).1; simp; omega)))
  clear O1
  have O2n := Lib.hid (own_kept O2.out (w' := wc3.setCell ⟨w.heap.size + 1 + 1, 3, none⟩ (.slice E3 c.parts.length d3)) (fun b e => Below.heap_setCell _ _ _ _ (by have := (O2.out.lt b e).1; simp; omega)))
  clear O2
  have O3n := Lib.hid (own_kept O3.out (w' := wc3.setCell ⟨w.heap.size + 1 + 1, 3, none⟩ (.slice E3 c.parts.length d3)) (fun b e => Below.heap_setCell _ _ _ _ (by have := (O3.out.lt b e).1; simp; omega)))
  clear O3
  go_upto_region 6 with fail
  generalize wc3.setCell ⟨w.heap.size + 1 + 1, 3, none⟩ (.slice E3 c.parts.length d3) = W3 at Y1 Y2 Y3 B1 O1n O2n O3n ⊢
  clear c3 f3
  have O1 := O1n
  clear O1n
  have O2 := O2n
  clear O2n
  have O3 := O3n
  clear O3n
  have X1 := Y1
  have X2 := Y2
  have X3 := Y3
  have B0 := B1
  clear Y1 Y2 Y3 B1
  have n4 := X1.out.cell 4 rfl
  have c4 := X3.out.cell 4 rfl
  have f4 := X3.out.open_ 4
  have Y1 := Lib.hid (X1.out.other (p := ⟨w.heap.size + 1 + 1, 4, none⟩) (by simp; omega) (.bool c.dirty))
  have Y2 := Lib.hid (X2.out.other (p := ⟨w.heap.size + 1 + 1, 4, none⟩) (by simp) (.bool c.dirty))
  have Y3 := Lib.hid (show Box (W3.setCell ⟨w.heap.size + 1 + 1, 4, none⟩ (.bool c.dirty)) (w.heap.size + 1 + 1) [.int .i64 c.txg, .slice E1 c.sets.length d1, .slice E2 c.ddt.length d2, .slice E3 c.parts.length d3, .bool c.dirty, .slice none 0 0, .int .i64 0] from X3.out.set 4 (.bool c.dirty))
  have B1 := Lib.hid (B0.out.setCell (p := ⟨w.heap.size + 1 + 1, 4, none⟩) (by simp; omega) (.bool c.dirty))
  clear X1 X2 X3 B0
  have O1n := Lib.hid (own_kept O1.out (w' := W3.setCell ⟨w.heap.size + 1 + 1, 4, none⟩ (.bool c.dirty)) (fun b e => Below.heap_setCell _ _ _ _ (by have := (O1.out.lt b e).1; simp; omega)))
  clear O1
  have O2n := Lib.hid (own_kept O2.out (w' := W3.setCell ⟨w.heap.size + 1 + 1, 4, none⟩ (.bool c.dirty)) (fun b e => Below.heap_setCell _ _ _ _ (by have := (O2.out.lt b e).1; simp; omega)))
  clear O2
  have O3n := Lib.hid (own_kept O3.out (w' := W3.setCell ⟨w.heap.size + 1 + 1, 4, none⟩ (.bool c.dirty)) (fun b e => Below.heap_setCell _ _ _ _ (by have := (O3.out.lt b e).1; simp; omega)))
  clear O3
  go_upto_region 7 with fail
  generalize W3.setCell ⟨w.heap.size + 1 + 1, 4, none⟩ (.bool c.dirty) = W4 at Y1 Y2 Y3 B1 O1n O2n O3n ⊢
  clear c4 f4
  have O1 := O1n
  clear O1n
  have O2 := O2n
  clear O2n
  have O3 := O3n
  clear O3n
  have X1 := Y1
  have X2 := Y2
  have X3 := Y3
  have B0 := B1
  clear Y1 Y2 Y3 B1
  clear n4
  have n5 := X1.out.cell 5 rfl
  have hl5 : w.heap.size + 1 + 1 < W4.heap.size := X3.out.lt
  go_wp2_with fail
  refine (toIntS_b _ c.safe _ (HR.out.i.below B0.out (fun b e => HR.out.li b e)) HS.out.i).mono ?_
  rintro e wc5 ⟨ui, rfl, hown, hb⟩
  have O5 := Lib.hid hown
  obtain ⟨_, E5, d5, rfl, _, _, _⟩ := sl_of_own hown
  have Y1 := Lib.hid (X1.out.below hb X1.out.lt)
  have Y2 := Lib.hid (X2.out.below hb X2.out.lt)
  have Y3 := Lib.hid (X3.out.below hb X3.out.lt)
  have B1 := Lib.hid (B0.out.trans (hb.mono B0.out.size))
  have O1n := Lib.hid (own_kept O1.out (w' := wc5) (fun b e => hb.block b (O1.out.lt b e).2))
  clear O1
  have O2n := Lib.hid (own_kept O2.out (w' := wc5) (fun b e => hb.block b (O2.out.lt b e).2))
  clear O2
  have O3n := Lib.hid (own_kept O3.out (w' := wc5) (fun b e => hb.block b (O3.out.lt b e).2))
  clear O3
  clear hb hown X1 X2 X3 B0 n5
  have X1 := Y1
  have X2 := Y2
  have X3 := Y3
  have B0 := B1
  clear Y1 Y2 Y3 B1
  have O1 := O1n
  clear O1n
  have O2 := O2n
  clear O2n
  have O3 := O3n
  clear O3n
  have c5 := X3.out.cell 5 rfl
  have f5 := X3.out.open_ 5
  have Y1 := Lib.hid (X1.out.other (p := ⟨w.heap.size + 1 + 1, 5, none⟩) (by simp; omega) (.slice E5 c.safe.length d5))
  have Y2 := Lib.hid (X2.out.other (p := ⟨w.heap.size + 1 + 1, 5, none⟩) (by simp) (.slice E5 c.safe.length d5))
  have Y3 := Lib.hid (show Box (wc5.setCell ⟨w.heap.size + 1 + 1, 5, none⟩ (.slice E5 c.safe.length d5)) (w.heap.size + 1 + 1) [.int .i64 c.txg, .slice E1 c.sets.length d1, .slice E2 c.ddt.length d2, .slice E3 c.parts.length d3, .bool c.dirty, .slice E5 c.safe.length d5, .int .i64 0] from X3.out.set 5 (.slice E5 c.safe.length d5))
  have B1 := Lib.hid (B0.out.setCell (p := ⟨w.heap.size + 1 + 1, 5, none⟩) (by simp; omega) (.slice E5 c.safe.length d5))
  clear X1 X2 X3 B0
  have O1n := Lib.hid (own_kept O1.out (w' := wc5.setCell ⟨w.heap.size + 1 + 1, 5, none⟩ (.slice E5 c.safe.length d5)) (fun b e => Below.heap_setCell _ _ _ _ (by have := (O1.out.lt b e).1; simp; omega)))
  clear O1
  have O2n := Lib.hid (own_kept O2.out (w' := wc5.setCell ⟨w.heap.size + 1 + 1, 5, none⟩ (.slice E5 c.safe.length d5)) (fun b e => Below.heap_setCell _ _ _ _ (by have := (O2.out.lt b e).1; simp; omega)))
  clear O2
  have O3n := Lib.hid (own_kept O3.out (w' := wc5.setCell ⟨w.heap.size + 1 + 1, 5, none⟩ (.slice E5 c.safe.length d5)) (fun b e => Below.heap_setCell _ _ _ _ (by have := (O3.out.lt b e).1; simp; omega)))
  clear O3
  have O5n := Lib.hid (own_kept O5.out (w' := wc5.setCell ⟨w.heap.size + 1 + 1, 5, none⟩ (.slice E5 c.safe.length d5)) (fun b e => Below.heap_setCell _ _ _ _ (by have := (O5.out.lt b e).1; simp; omega)))
  clear O5
  go_upto_region 8 with fail
  generalize wc5.setCell ⟨w.heap.size + 1 + 1, 5, none⟩ (.slice E5 c.safe.length d5) = W5 at Y1 Y2 Y3 B1 O1n O2n O3n O5n ⊢
  clear c5 f5
  have O1 := O1n
  clear O1n
  have O2 := O2n
  clear O2n
  have O3 := O3n
  clear O3n
  have O5 := O5n
  clear O5n
  have X1 := Y1
  have X2 := Y2
  have X3 := Y3
  have B0 := B1
  clear Y1 Y2 Y3 B1
  have n6 := X1.out.cell 6 rfl
  have c6 := X3.out.cell 6 rfl
  have f6 := X3.out.open_ 6
  have Y1 := Lib.hid (X1.out.other (p := ⟨w.heap.size + 1 + 1, 6, none⟩) (by simp; omega) (.int .i64 c.logn))
  have Y2 := Lib.hid (X2.out.other (p := ⟨w.heap.size + 1 + 1, 6, none⟩) (by simp) (.int .i64 c.logn))
  have Y3 := Lib.hid (show Box (W5.setCell ⟨w.heap.size + 1 + 1, 6, none⟩ (.int .i64 c.logn)) (w.heap.size + 1 + 1) [.int .i64 c.txg, .slice E1 c.sets.length d1, .slice E2 c.ddt.length d2, .slice E3 c.parts.length d3, .bool c.dirty, .slice E5 c.safe.length d5, .int .i64 c.logn] from X3.out.set 6 (.int .i64 c.logn))
  have B1 := Lib.hid (B0.out.setCell (p := ⟨w.heap.size + 1 + 1, 6, none⟩) (by simp; omega) (.int .i64 c.logn))
  clear X1 X2 X3 B0
  have O1n := Lib.hid (own_kept O1.out (w' := W5.setCell ⟨w.heap.size + 1 + 1, 6, none⟩ (.int .i64 c.logn)) (fun b e => Below.heap_setCell _ _ _ _ (by have := (O1.out.lt b e).1; simp; omega)))
  clear O1
  have O2n := Lib.hid (own_kept O2.out (w' := W5.setCell ⟨w.heap.size + 1 + 1, 6, none⟩ (.int .i64 c.logn)) (fun b e => Below.heap_setCell _ _ _ _ (by have := (O2.out.lt b e).1; simp; omega)))
  clear O2
  have O3n := Lib.hid (own_kept O3.out (w' := W5.setCell ⟨w.heap.size + 1 + 1, 6, none⟩ (.int .i64 c.logn)) (fun b e => Below.heap_setCell _ _ _ _ (by have := (O3.out.lt b e).1; simp; omega)))
  clear O3
  have O5n := Lib.hid (own_kept O5.out (w' := W5.setCell ⟨w.heap.size + 1 + 1, 6, none⟩ (.int .i64 c.logn)) (fun b e => Below.heap_setCell _ _ _ _ (by have := (O5.out.lt b e).1; simp; omega)))
  clear O5
  go_upto_region 9 with fail
  generalize W5.setCell ⟨w.heap.size + 1 + 1, 6, none⟩ (.int .i64 c.logn) = W6 at Y1 Y2 Y3 B1 O1n O2n O3n O5n ⊢
  clear c6 f6
  have O1 := O1n
  clear O1n
  have O2 := O2n
  clear O2n
  have O3 := O3n
  clear O3n
  have O5 := O5n
  clear O5n
  have X1 := Y1
  have X2 := Y2
  have X3 := Y3
  have B0 := B1
  clear Y1 Y2 Y3 B1
  clear n6
  have HPF := Lib.hid (Box.putAll X2.out [.int .i64 c.txg, .slice E1 c.sets.length d1, .slice E2 c.ddt.length d2, .slice E3 c.parts.length d3, .bool c.dirty, .slice E5 c.safe.length d5, .int .i64 c.logn] rfl)
  have HBF := Lib.hid (putC_below B0.out (w.heap.size + 1) 0 (by omega) [.int .i64 c.txg, .slice E1 c.sets.length d1, .slice E2 c.ddt.length d2, .slice E3 c.parts.length d3, .bool c.dirty, .slice E5 c.safe.length d5, .int .i64 c.logn])
  have Q1 := Lib.hid (own_kept O1.out (w' := putC W6 (w.heap.size + 1) 0 [.int .i64 c.txg, .slice E1 c.sets.length d1, .slice E2 c.ddt.length d2, .slice E3 c.parts.length d3, .bool c.dirty, .slice E5 c.safe.length d5, .int .i64 c.logn]) (fun b e => putC_heap _ _ _ _ _ (by have := (O1.out.lt b e).1; omega)))
  have Q2 := Lib.hid (own_kept O2.out (w' := putC W6 (w.heap.size + 1) 0 [.int .i64 c.txg, .slice E1 c.sets.length d1, .slice E2 c.ddt.length d2, .slice E3 c.parts.length d3, .bool c.dirty, .slice E5 c.safe.length d5, .int .i64 c.logn]) (fun b e => putC_heap _ _ _ _ _ (by have := (O2.out.lt b e).1; omega)))
  have Q3 := Lib.hid (own_kept O3.out (w' := putC W6 (w.heap.size + 1) 0 [.int .i64 c.txg, .slice E1 c.sets.length d1, .slice E2 c.ddt.length d2, .slice E3 c.parts.length d3, .bool c.dirty, .slice E5 c.safe.length d5, .int .i64 c.logn]) (fun b e => putC_heap _ _ _ _ _ (by have := (O3.out.lt b e).1; omega)))
  have Q5 := Lib.hid (own_kept O5.out (w' := putC W6 (w.heap.size + 1) 0 [.int .i64 c.txg, .slice E1 c.sets.length d1, .slice E2 c.ddt.length d2, .slice E3 c.parts.length d3, .bool c.dirty, .slice E5 c.safe.length d5, .int .i64 c.logn]) (fun b e => putC_heap _ _ _ _ _ (by have := (O5.out.lt b e).1; omega)))
  go_wp2_with (first | (refine wpList_load_box rfl _ rfl aggCore rfl [.int .i64 c.txg, .slice E1 c.sets.length d1, .slice E2 c.ddt.length d2, .slice E3 c.parts.length d3, .bool c.dirty, .slice E5 c.safe.length d5, .int .i64 c.logn] rfl X3.out ?_) | (refine wpList_store_box rfl _ _ rfl rfl aggCore rfl [.int .i64 c.txg, .slice E1 c.sets.length d1, .slice E2 c.ddt.length d2, .slice E3 c.parts.length d3, .bool c.dirty, .slice E5 c.safe.length d5, .int .i64 c.logn] rfl rfl (by simp [Value.oneCell']) _ X2.out rfl ?_; generalize putC W6 (w.heap.size + 1) 0 [.int .i64 c.txg, .slice E1 c.sets.length d1, .slice E2 c.ddt.length d2, .slice E3 c.parts.length d3, .bool c.dirty, .slice E5 c.safe.length d5, .int .i64 c.logn] = WF at HPF HBF Q1 Q2 Q3 Q5 ⊢))
  refine bodyPost_ret (results_box rfl _ (w.heap.size + 1) [.int .i64 c.txg, .slice E1 c.sets.length d1, .slice E2 c.ddt.length d2, .slice E3 c.parts.length d3, .bool c.dirty, .slice E5 c.safe.length d5, .int .i64 c.logn] aggCore rfl rfl HPF.out) rfl ⟨_, _, _, _, rfl, ⟨sl_of_own Q1.out, sl_of_own Q2.out, sl_of_own Q3.out, sl_of_own Q5.out, low_of_own Q1.out, low_of_own Q2.out, low_of_own Q3.out, low_of_own Q5.out⟩, HBF.out⟩
end Go.Proofs.YtobjgdnmlibofaaGreat
