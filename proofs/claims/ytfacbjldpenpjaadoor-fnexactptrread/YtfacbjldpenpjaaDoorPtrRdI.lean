/-
  Pointers read: impl's PtrRead.
-/
import Derived.Test.YtfacbjldpenpjaaDoorPtrRd
import Derived.Lib.AtoiErrMem
set_option maxRecDepth 100000
namespace Go.Proofs.YtfacbjldpenpjaaDoor
open Go.ChangeShapes Go.WideShapes Go.ChangeAt Go.RowKit Go.Proofs.Palim

/-- What the library's functions read of its variables. -/
structure LibVars (w : World) : Prop where
  pow : HasPow w
  mx : ∃ m, w.cell? ⟨2, 0, none⟩ = some (.int .i64 m)
  es : ∃ te pe, w.cell? ⟨3, 0, none⟩ = some (.iface te pe)
  er : ∃ te pe, w.cell? ⟨4, 0, none⟩ = some (.iface te pe)
theorem LibVars.below {w w' : World} (h : LibVars w) (hb : Below w.heap.size w w') : LibVars w' := by
  obtain ⟨h1, ⟨m, h2⟩, ⟨te, pe, h3⟩, ⟨te', pe', h4⟩⟩ := h
  exact ⟨h1.below hb h1.lt, ⟨m, (hb.cell (World.block_lt_of_cell? _ _ h2)).trans h2⟩, ⟨te, pe, (hb.cell (World.block_lt_of_cell? _ _ h3)).trans h3⟩, ⟨te', pe', (hb.cell (World.block_lt_of_cell? _ _ h4)).trans h4⟩⟩

def AtoiPost (s : ByteArray) (w : World) (e : Ending) (w' : World) : Prop :=
  Below w.heap.size w w' ∧ ((∃ n, Lib.atoiAll s.data.toList = .ok n ∧ e = .returned (.tuple #[.int .i64 n, .nilIface])) ∨ ((∀ n, Lib.atoiAll s.data.toList ≠ .ok n) ∧ ∃ n te pe, e = .returned (.tuple #[.int .i64 n, .iface te pe])))
theorem atoi_any (s : ByteArray) (w : World) (hs : s.size ≤ 1048576) (hv : LibVars w) : Calls Tryd.prog 60 #[.string s] w (AtoiPost s w) := by
  rcases h : Lib.atoiAll s.data.toList with v | _ | _
  · refine (Tryd.strconv_Atoi_ok s (by omega) v h w).mono ?_
    rintro e w' ⟨rfl, hw⟩
    refine ⟨?_, Or.inl ⟨v, h, rfl⟩⟩
    rcases hw with rfl | ⟨t, rfl⟩
    · exact Below.refl _ _
    · exact Lib.bytesWorld_below _ _ _
  · obtain ⟨te, pe, h3⟩ := hv.es
    refine (Tryd.strconv_Atoi_syntax s (by omega) h _ w h3 (Or.inr ⟨te, pe, rfl⟩)).mono ?_
    rintro e w' ⟨N, rfl, _, _, hb⟩
    exact ⟨hb, Or.inr ⟨fun n e => (by rw [h] at e; cases e), _, _, _, rfl⟩⟩
  · obtain ⟨te, pe, h3⟩ := hv.er
    refine (Tryd.strconv_Atoi_range s (by omega) h _ w h3 (Or.inr ⟨te, pe, rfl⟩)).mono ?_
    rintro e w' ⟨N, rfl, _, _, hb⟩
    exact ⟨hb, Or.inr ⟨fun n e => (by rw [h] at e; cases e), _, _, _, rfl⟩⟩
def CutP (s : ByteArray) (w : World) (e : Ending) (w' : World) : Prop :=
  ∃ a b c, e = .returned (.tuple #[.string a, .string b, .bool c]) ∧ a.data.toList = (Lib.cut s.data.toList [46]).1 ∧ b.data.toList = (Lib.cut s.data.toList [46]).2.1 ∧ a.size ≤ s.size ∧ b.size ≤ s.size ∧ Below w.heap.size w w'
theorem cut_len (l : List UInt8) : (Lib.cut l [46]).1.length ≤ l.length ∧ (Lib.cut l [46]).2.1.length ≤ l.length := by
  unfold Lib.cut
  split
  · simp; omega
  · simp
theorem cutP_any (s : ByteArray) (w : World) (hs : s.size ≤ 1048576) (hv : LibVars w) : Calls Tryd.prog 59 #[.string s, .string ⟨#[46]⟩] w (CutP s w) := by
  obtain ⟨m, hm⟩ := hv.mx
  refine (Tryd.strings_Cut s ⟨#[46]⟩ m w (by omega) hm).mono ?_
  rintro e w1 ⟨he, n, rfl⟩
  have hl := cut_len s.data.toList
  refine ⟨_, _, _, he, by simp, by simp, ?_, ?_, ⟨rfl, rfl, rfl, Nat.le_refl _, fun _ _ => rfl⟩⟩
  · rw [size_list, size_list]; simpa using hl.1
  · rw [size_list, size_list]; simpa using hl.2
theorem idx3_0 (a b c : ByteArray) (w : World) : (Instr.index 101 (.agg #[.string a, .string b, .string c]) (.int .i64 0)).run Tryd.prog w = .ok (.string a) w := by kernel_rfl
theorem idx3_1 (a b c : ByteArray) (w : World) : (Instr.index 101 (.agg #[.string a, .string b, .string c]) (.int .i64 1)).run Tryd.prog w = .ok (.string b) w := by kernel_rfl
theorem idx3_2 (a b c : ByteArray) (w : World) : (Instr.index 101 (.agg #[.string a, .string b, .string c]) (.int .i64 2)).run Tryd.prog w = .ok (.string c) w := by kernel_rfl
theorem implText_is (p : PtrM) (w : World) (hp : HasPow w) (t : ByteArray) (h : ptrText p = t) :
    Calls Tryd.prog 19 #[pv p] w fun e w' => e = .returned (.string t) ∧ Below w.heap.size w w' := h ▸ implPtrText_any p w hp
theorem parse_bad {l : List UInt8} {a b c : ByteArray} (ha : a.data.toList = (Lib.cut l [46]).1) (hb : b.data.toList = (Lib.cut (Lib.cut l [46]).2.1 [46]).1) (hc : c.data.toList = (Lib.cut (Lib.cut l [46]).2.1 [46]).2.1)
    (h : (∀ n, Lib.atoiAll a.data.toList ≠ .ok n) ∨ (∀ n, Lib.atoiAll b.data.toList ≠ .ok n) ∨ (∀ n, Lib.atoiAll c.data.toList ≠ .ok n)) : parseL l = none := by
  unfold parseL
  rw [← ha, ← hb, ← hc]
  split
  · rename_i x y z h1 h2 h3
    rcases h with h | h | h
    · exact absurd h1 (h _)
    · exact absurd h2 (h _)
    · exact absurd h3 (h _)
  · rfl
theorem parse_ok {l : List UInt8} {a b c : ByteArray} {x y z : Int} (ha : a.data.toList = (Lib.cut l [46]).1) (hb : b.data.toList = (Lib.cut (Lib.cut l [46]).2.1 [46]).1) (hc : c.data.toList = (Lib.cut (Lib.cut l [46]).2.1 [46]).2.1)
    (h1 : Lib.atoiAll a.data.toList = .ok x) (h2 : Lib.atoiAll b.data.toList = .ok y) (h3 : Lib.atoiAll c.data.toList = .ok z) : parseL l = some ⟨x, y, z⟩ := by
  unfold parseL
  rw [← ha, ← hb, ← hc, h1, h2, h3]
theorem read_bad {t : ByteArray} (hn : t ≠ ⟨#[45]⟩) (h : parseL t.data.toList = none) : readM t = none := readM_none hn (fun p hp e => by
  have := parse_good hp
  rw [← e, h] at this
  cases this)

set_option maxHeartbeats 2000000 in
theorem implPtrRead_any (t : ByteArray) (w : World) (ht : t.size ≤ 1048576) (hv : LibVars w) :
    Calls Tryd.prog 21 #[.string t] w (ReadPost t w) := by
  have hnot : ∀ (x : Bool) (w : World), (Op.unary .not (.bool x)).run Tryd.prog w = .ok (.bool (!x)) w := fun _ _ => rfl
  have X0 := Lib.hid (box_new w #[.int .i64 0, .int .i64 0, .int .i64 0] 35)
  have B0 := Lib.hid (Below.new (w := w) (.cells #[.int .i64 0, .int .i64 0, .int .i64 0] 35))
  have HV := Lib.hid hv
  clear hv
  by_cases hd : t = ⟨#[45]⟩
  · subst hd
    go_enter Tryd.func21, Tryd.ntmps21
    go_wp2
    refine bodyPost_ret (v := .tuple #[pv noPtr, .bool true]) (by simp [results, Tryd.results21, go_sem, noPtr]) rfl ⟨B0.out, Or.inl ⟨noPtr, readM_dash, rfl⟩⟩
  have hcmp := ne_dash hd
  have HDN := Lib.hid hd
  clear hd
  go_enter Tryd.func21, Tryd.ntmps21
  go_wp2_with fail
  refine (cutP_any t _ ht (HV.out.below B0.out)).mono ?_
  rintro e w1 ⟨a, rest, q1, rfl, ha, hr, za, zr, hb⟩
  have X1 := Lib.hid (X0.out.below hb X0.out.lt)
  have B1 := Lib.hid (B0.out.trans (hb.mono B0.out.size))
  clear hb X0 B0
  go_wp2_with fail
  refine (cutP_any rest _ (by omega) (HV.out.below B1.out)).mono ?_
  rintro e w2 ⟨b, c, q2, rfl, hb_, hc_, zb, zc, hb⟩
  rw [hr] at hb_ hc_
  have HA := Lib.hid ha
  have HBB := Lib.hid hb_
  have HCC := Lib.hid hc_
  have hlt2 := (X1.out.below hb X1.out.lt).lt
  have X2 := Lib.hid ((X1.out.below hb X1.out.lt).alloc (.cells #[.int .i64 0, .int .i64 0, .int .i64 0] 100))
  have hn2 := Below.new (w := w2) (.cells #[.int .i64 0, .int .i64 0, .int .i64 0] 100)
  have B2 := Lib.hid ((B1.out.trans (hb.mono B1.out.size)).alloc (Nat.le_trans B1.out.size hb.size) (.cells #[.int .i64 0, .int .i64 0, .int .i64 0] 100))
  have XF := Lib.hid (box_new w2 #[.int .i64 0, .int .i64 0, .int .i64 0] 100)
  have zb' : b.size ≤ 1048576 := by omega
  have zc' : c.size ≤ 1048576 := by omega
  have za' : a.size ≤ 1048576 := by omega
  have hF0 := B1.out.size
  clear hb hn2 X1 B1 ha hr hb_ hc_ zr za zb zc
  go_upto_region 6 with fail
  generalize w2.alloc (.cells #[.int .i64 0, .int .i64 0, .int .i64 0] 100) = w3 at X2 B2 XF ⊢
  generalize w2.heap.size = F at XF hlt2 ⊢
  have i0 := idx3_0 a b c
  have i1 := idx3_1 a b c
  have i2 := idx3_2 a b c
  go_wp2_with fail
  refine wp_loop_rounds 4 ?_
  rw [rounds_succ]
  go_wp2_with fail
  refine (atoi_any a _ za' (HV.out.below B2.out)).mono ?_
  rintro e w4 ⟨hb, ⟨n0, hok0, rfl⟩ | ⟨hno, nx, te, pe, rfl⟩⟩
  rotate_left
  · have HNO := Lib.hid (read_bad HDN.out (parse_bad HA.out HBB.out HCC.out (Or.inl hno)))
    have X9 := Lib.hid (X2.out.below hb X2.out.lt)
    have B9 := Lib.hid (B2.out.trans (hb.mono B2.out.size))
    clear hb hno X2 XF B2
    obtain ⟨r0, r1, r2⟩ := X9.out.three
    have f0 := X9.out.open_ 0
    have f1 := X9.out.open_ 1
    have f2 := X9.out.open_ 2
    have Q1 := Lib.hid (X9.out.set 0 (.int .i64 0))
    have Q2 := Lib.hid (Q1.out.set 1 (.int .i64 0))
    have Q3 := Lib.hid (Q2.out.set 2 (.int .i64 0))
    go_wp2
    refine bodyPost_ret (v := .tuple #[pv noPtr, .bool false]) (by simp [results, Tryd.results21, go_sem, noPtr, Q1.out.cell 0 rfl, Q2.out.cell 1 rfl, Q3.out.cell 2 rfl]) rfl ⟨((B9.out.setCell (by simp) _).setCell (by simp) _).setCell (by simp) _, Or.inr ⟨HNO.out, rfl⟩⟩
  have HOK0 := Lib.hid hok0
  have Xb := Lib.hid (X2.out.below hb X2.out.lt)
  have XFb := Lib.hid (XF.out.below hb XF.out.lt)
  have Bb := Lib.hid (B2.out.trans (hb.mono B2.out.size))
  clear hb hok0 X2 XF B2
  obtain ⟨y0, y1, y2⟩ := XFb.out.three
  have g0 := XFb.out.open_ 0
  have X5 := Lib.hid (Xb.out.other (p := ⟨F, 0, none⟩) (by simp; omega) (.int .i64 n0))
  have XF5 := Lib.hid (XFb.out.set 0 (.int .i64 n0))
  have B5 := Lib.hid (Bb.out.setCell (p := ⟨F, 0, none⟩) (by simp; omega) (.int .i64 n0))
  go_wp2_with fail
  rw [rounds_succ]
  generalize w4.setCell ⟨F, 0, none⟩ (.int .i64 n0) = w5 at X5 XF5 B5 ⊢
  clear y0 y1 y2 g0 Xb XFb Bb
  go_wp2_with fail
  refine (atoi_any b _ zb' (HV.out.below B5.out)).mono ?_
  rintro e w6 ⟨hb, ⟨n1, hok1, rfl⟩ | ⟨hno, nx, te, pe, rfl⟩⟩
  rotate_left
  · have HNO := Lib.hid (read_bad HDN.out (parse_bad HA.out HBB.out HCC.out (Or.inr (Or.inl hno))))
    have X9 := Lib.hid (X5.out.below hb X5.out.lt)
    have B9 := Lib.hid (B5.out.trans (hb.mono B5.out.size))
    clear hb hno X5 XF5 B5
    obtain ⟨r0, r1, r2⟩ := X9.out.three
    have f0 := X9.out.open_ 0
    have f1 := X9.out.open_ 1
    have f2 := X9.out.open_ 2
    have Q1 := Lib.hid (X9.out.set 0 (.int .i64 0))
    have Q2 := Lib.hid (Q1.out.set 1 (.int .i64 0))
    have Q3 := Lib.hid (Q2.out.set 2 (.int .i64 0))
    go_wp2
    refine bodyPost_ret (v := .tuple #[pv noPtr, .bool false]) (by simp [results, Tryd.results21, go_sem, noPtr, Q1.out.cell 0 rfl, Q2.out.cell 1 rfl, Q3.out.cell 2 rfl]) rfl ⟨((B9.out.setCell (by simp) _).setCell (by simp) _).setCell (by simp) _, Or.inr ⟨HNO.out, rfl⟩⟩
  have HOK1 := Lib.hid hok1
  have Xb := Lib.hid (X5.out.below hb X5.out.lt)
  have XFb := Lib.hid (XF5.out.below hb XF5.out.lt)
  have Bb := Lib.hid (B5.out.trans (hb.mono B5.out.size))
  clear hb hok1 X5 XF5 B5
  obtain ⟨y0, y1, y2⟩ := XFb.out.three
  have g0 := XFb.out.open_ 1
  have X7 := Lib.hid (Xb.out.other (p := ⟨F, 1, none⟩) (by simp; omega) (.int .i64 n1))
  have XF7 := Lib.hid (XFb.out.set 1 (.int .i64 n1))
  have B7 := Lib.hid (Bb.out.setCell (p := ⟨F, 1, none⟩) (by simp; omega) (.int .i64 n1))
  go_wp2_with fail
  rw [rounds_succ]
  generalize w6.setCell ⟨F, 1, none⟩ (.int .i64 n1) = w7 at X7 XF7 B7 ⊢
  clear y0 y1 y2 g0 Xb XFb Bb
  go_wp2_with fail
  refine (atoi_any c _ zc' (HV.out.below B7.out)).mono ?_
  rintro e w8 ⟨hb, ⟨n2, hok2, rfl⟩ | ⟨hno, nx, te, pe, rfl⟩⟩
  rotate_left
  · have HNO := Lib.hid (read_bad HDN.out (parse_bad HA.out HBB.out HCC.out (Or.inr (Or.inr hno))))
    have X9 := Lib.hid (X7.out.below hb X7.out.lt)
    have B9 := Lib.hid (B7.out.trans (hb.mono B7.out.size))
    clear hb hno X7 XF7 B7
    obtain ⟨r0, r1, r2⟩ := X9.out.three
    have f0 := X9.out.open_ 0
    have f1 := X9.out.open_ 1
    have f2 := X9.out.open_ 2
    have Q1 := Lib.hid (X9.out.set 0 (.int .i64 0))
    have Q2 := Lib.hid (Q1.out.set 1 (.int .i64 0))
    have Q3 := Lib.hid (Q2.out.set 2 (.int .i64 0))
    go_wp2
    refine bodyPost_ret (v := .tuple #[pv noPtr, .bool false]) (by simp [results, Tryd.results21, go_sem, noPtr, Q1.out.cell 0 rfl, Q2.out.cell 1 rfl, Q3.out.cell 2 rfl]) rfl ⟨((B9.out.setCell (by simp) _).setCell (by simp) _).setCell (by simp) _, Or.inr ⟨HNO.out, rfl⟩⟩
  have HOK2 := Lib.hid hok2
  have Xb := Lib.hid (X7.out.below hb X7.out.lt)
  have XFb := Lib.hid (XF7.out.below hb XF7.out.lt)
  have Bb := Lib.hid (B7.out.trans (hb.mono B7.out.size))
  clear hb hok2 X7 XF7 B7
  obtain ⟨y0, y1, y2⟩ := XFb.out.three
  have g0 := XFb.out.open_ 2
  have X9 := Lib.hid (Xb.out.other (p := ⟨F, 2, none⟩) (by simp; omega) (.int .i64 n2))
  have XF9 := Lib.hid (XFb.out.set 2 (.int .i64 n2))
  have B9 := Lib.hid (Bb.out.setCell (p := ⟨F, 2, none⟩) (by simp; omega) (.int .i64 n2))
  go_wp2_with fail
  rw [rounds_succ]
  generalize w8.setCell ⟨F, 2, none⟩ (.int .i64 n2) = w9 at X9 XF9 B9 ⊢
  clear y0 y1 y2 g0 Xb XFb Bb
  have HPAR := Lib.hid (parse_ok HA.out HBB.out HCC.out HOK0.out HOK1.out HOK2.out)
  clear HA HBB HCC
  obtain ⟨y0, y1, y2⟩ := XF9.out.three
  have XT := Lib.hid (X9.out.alloc (.cells #[.int .i64 n0, .int .i64 n1, .int .i64 n2] 35))
  have XP := Lib.hid (box_new w9 #[.int .i64 n0, .int .i64 n1, .int .i64 n2] 35)
  have BT := Lib.hid (B9.out.alloc B9.out.size (.cells #[.int .i64 n0, .int .i64 n1, .int .i64 n2] 35))
  obtain ⟨tp, HTP⟩ : ∃ tp, Hid (ptrText ⟨n0, n1, n2⟩ = tp) := ⟨_, Lib.hid rfl⟩
  go_wp2_with fail
  refine (implText_is ⟨n0, n1, n2⟩ _ (HV.out.below BT.out).pow tp HTP.out).mono ?_
  rintro e w10 ⟨rfl, hb⟩
  have X10 := Lib.hid (XT.out.below hb XT.out.lt)
  have XP10 := Lib.hid (XP.out.below hb XP.out.lt)
  have B10 := Lib.hid (BT.out.trans (hb.mono BT.out.size))
  clear hb XT XP BT X9 XF9 B9 y0 y1 y2
  by_cases heq : tp = t
  · subst heq
    have HSOME := Lib.hid (readM_some (ok_of_text HTP.out (by
      intro h0
      have e0 : tp.data.toList = [] := List.eq_nil_of_length_eq_zero (by rw [← size_list]; exact h0)
      have h1 := HPAR.out
      rw [e0] at h1
      have h2 : parseL [] = none := by decide +kernel
      rw [h2] at h1
      cases h1)) HTP.out)
    obtain ⟨r0, r1, r2⟩ := X10.out.three
    have f0 := X10.out.open_ 0
    have f1 := X10.out.open_ 1
    have f2 := X10.out.open_ 2
    obtain ⟨y0, y1, y2⟩ := XP10.out.three
    have Q1 := Lib.hid (X10.out.set 0 (.int .i64 n0))
    have Q2 := Lib.hid (Q1.out.set 1 (.int .i64 n1))
    have Q3 := Lib.hid (Q2.out.set 2 (.int .i64 n2))
    go_wp2
    refine bodyPost_ret (v := .tuple #[pv ⟨n0, n1, n2⟩, .bool true]) (by simp [results, Tryd.results21, go_sem, Q1.out.cell 0 rfl, Q2.out.cell 1 rfl, Q3.out.cell 2 rfl]) rfl ⟨((B10.out.setCell (by simp) _).setCell (by simp) _).setCell (by simp) _, Or.inl ⟨_, HSOME.out, rfl⟩⟩
  · have HNO := Lib.hid (readM_none HDN.out (fun p hp e => heq (by
      have h1 := parse_good hp
      rw [← e, HPAR.out] at h1
      have h2 := Option.some.inj h1
      rw [← HTP.out, h2, good_text hp]
      apply ByteArray.ext
      exact Array.ext' (by simpa using e.symm))))
    have hcmp2 := ne_text heq
    obtain ⟨r0, r1, r2⟩ := X10.out.three
    have f0 := X10.out.open_ 0
    have f1 := X10.out.open_ 1
    have f2 := X10.out.open_ 2
    have Q1 := Lib.hid (X10.out.set 0 (.int .i64 0))
    have Q2 := Lib.hid (Q1.out.set 1 (.int .i64 0))
    have Q3 := Lib.hid (Q2.out.set 2 (.int .i64 0))
    go_wp2
    refine bodyPost_ret (v := .tuple #[pv noPtr, .bool false]) (by simp [results, Tryd.results21, go_sem, noPtr, Q1.out.cell 0 rfl, Q2.out.cell 1 rfl, Q3.out.cell 2 rfl]) rfl ⟨((B10.out.setCell (by simp) _).setCell (by simp) _).setCell (by simp) _, Or.inr ⟨HNO.out, rfl⟩⟩
end Go.Proofs.YtfacbjldpenpjaaDoor
