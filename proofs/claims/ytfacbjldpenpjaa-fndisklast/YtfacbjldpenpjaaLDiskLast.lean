/-
  The law on the last write of a sector, walked: what is asked of the draws is hDraw.
-/
import Derived.Test.YtfacbjldpenpjaaLastMath
import Derived.Test.YtfacbjldpenpjaaDraw
import Derived.Test.YtfacbjldpenpjaaImDiskWrite
import Derived.Test.YtfacbjldpenpjaaImDiskRead
import Derived.Test.YtfacbjldpenpjaaImDiskFall
import Derived.Test.YtfacbjldpenpjaaPDiskWrite
set_option maxRecDepth 100000
namespace Go.Proofs.Ytfacbjldpenpjaa
open Go.ChangeShapes Go.WideShapes Go.ChangeAt Go.RowKit Go.Proofs.Palim

/-- A disk, a sector and a text are drawn: they read as such, and are short. -/
def DrawnW (w : World) (e : Ending) (w' : World) : Prop :=
  ∃ (d : DiskM) (side at_ : Int) (text : ByteArray) (v0 v1 vl : Value), e = .returned (.tuple #[.agg #[v0, v1, vl], .int .i64 side, .int .i64 at_, .string text]) ∧ DiskOwn w' w.heap.size v0 v1 vl d ∧ DiskShort d ∧ text.size ≤ 1000 ∧ Below w.heap.size w w'

theorem Boxed.under {w w' : World} {x B C : Nat} {v0 v1 vl : Value} {d : DiskM} (h : Boxed w x B v0 v1 vl d) (hb : Below C w w') (hx : x < C) : Boxed w' x B v0 v1 vl d :=
  ⟨h.box.below hb hx, h.low, ⟨h.reads.r0.below hb fun b e => by have := h.low.l0 b e; have := h.lt; omega, h.reads.r1.below hb fun b e => by have := h.low.l1 b e; have := h.lt; omega, h.reads.rl.below hb fun b e => by have := h.low.ll b e; have := h.lt; omega, h.reads.l0.mono hb.size, h.reads.l1.mono hb.size, h.reads.ll.mono hb.size⟩, h.lt⟩
theorem Sl.ones {w : World} {A : Option Addr} {N c : Nat} (h : Sl w 1 (.slice A (N + 1) c) (N + 1) (ics (List.replicate (N + 1) 1))) : Sl w 1 (.slice A N c) N (ics (List.replicate N 1)) := by
  obtain ⟨b, off, c', hv, h1, h2, h3⟩ := h.form (by omega)
  injection hv with e1 e2 e3
  subst e1 e3
  refine ⟨by simp [ics], _, _, rfl, by omega, h2, Or.inr ⟨b, off, rfl, fun j u hu => h3 j u ?_⟩⟩
  have hj := (List.getElem?_eq_some_iff.1 hu).1
  simp [ics] at hj
  simp [ics, hj] at hu
  simp [ics, show j < N + 1 by omega, hu]

set_option maxHeartbeats 4000000 in
theorem lawDiskLast (A B : Option Addr) (n c m e : Nat) (w : World) (hA : Code w A n c) (hB : Code w B m e)
    (hDraw : ∀ (A : Option Addr) (n c : Nat) (w : World), Code w A n c → Calls Try.prog 7 #[.slice A n c] w (DrawnW w)) :
    Calls Try.prog 3 #[.slice A n c, .slice B m e] w fun e w' => e = .returned (.bool true) ∧ Below w.heap.size w w' := by
  have hnot : ∀ (x : Bool) (w : World), (Op.unary .not (.bool x)).run Try.prog w = .ok (.bool (!x)) w := fun _ _ => rfl
  have HA := Lib.hid hA
  have HB := Lib.hid hB
  have HDR := Lib.hid hDraw
  have ha := hA.2.1
  have hb := hB.2.1
  clear hA hB hDraw
  unfold maxLen at ha hb
  by_cases hn : 1048576 < n
  · go_enter Try.func3, Try.ntmps3
    go_wp2
    go_ret
    exact ⟨rfl, Below.refl _ _⟩
  by_cases hm : 1048576 < m
  · go_enter Try.func3, Try.ntmps3
    go_wp2
    go_ret
    exact ⟨rfl, Below.refl _ _⟩
  go_enter Try.func3, Try.ntmps3
  go_wp2_with fail
  -- the draws
  refine (HDR.out A n c _ HA.out).mono ?_
  rintro e1 w1 ⟨d, side, at_, text, v0, v1, vl, rfl, ho, hs, ht, hb1⟩
  obtain ⟨A0, c0, A1, c1, Al, cl, rfl, rfl, rfl⟩ := ho.forms
  have HS := Lib.hid hs
  have hn1 := Below.new (w := w1) (.cells #[.slice A0 d.s0.length c0, .slice A1 d.s1.length c1, .slice Al d.late.length cl] 27)
  have XD := Lib.hid (boxed_new ho.reads 27)
  have B1 := Lib.hid (hb1.trans (hn1.mono hb1.size))
  clear ho hs hb1 hn1
  have CB := Lib.hid (HB.out.below B1.out)
  go_wp2_with fail
  refine (HDR.out B m e _ CB.out).mono ?_
  rintro e2 w2 ⟨d2, side2, at2, other, y0, y1, yl, rfl, ho, _, ht2, hb2⟩
  obtain ⟨E0, f0, E1, f1, El, fl, rfl, rfl, rfl⟩ := ho.forms
  have hn2 := Below.new (w := w2) (.cells #[.slice E0 d2.s0.length f0, .slice E1 d2.s1.length f1, .slice El d2.late.length fl] 27)
  have XD2 := Lib.hid ((XD.out.below hb2).below hn2)
  have B2 := Lib.hid ((B1.out.trans (hb2.mono B1.out.size)).trans (hn2.mono (Nat.le_trans B1.out.size hb2.size)))
  clear ho hb2 hn2 XD B1 CB
  obtain ⟨x0, x1, x2⟩ := XD2.out.box.three
  go_wp2_with fail
  -- the first write
  have htx : text.size ≤ maxLen := by unfold maxLen; omega
  have hty : other.size ≤ maxLen := by unfold maxLen; omega
  refine (ImplDiskWrite_any d side at_ text _ _ _ _ htx XD2.out.reads HS.out).mono ?_
  rintro e3 w3 ⟨g0, g1, gl, rfl, ho, hb3⟩
  obtain ⟨G0, k0, G1, k1, Gl, kl, rfl, rfl, rfl⟩ := ho.forms
  have SX := Lib.hid (short_write (side := side) (at_ := at_) (text := text) (by omega) HS.out)
  have hn3 := Below.new (w := w3) (.cells #[.slice G0 (writeM d side at_ text).s0.length k0, .slice G1 (writeM d side at_ text).s1.length k1, .slice Gl (writeM d side at_ text).late.length kl] 27)
  have XX := Lib.hid (boxed_new ho.reads 27)
  have XD3 := Lib.hid ((XD2.out.below hb3).below hn3)
  have B3 := Lib.hid ((B2.out.trans (hb3.mono B2.out.size)).trans (hn3.mono (Nat.le_trans B2.out.size hb3.size)))
  clear ho hb3 hn3 XD2 B2 x0 x1 x2
  obtain ⟨xm, HXM⟩ : ∃ xm, Hid (writeM d side at_ text = xm) := ⟨_, Lib.hid rfl⟩
  rw [HXM.out] at XX SX XD3 B3 ⊢
  obtain ⟨ok, HOK⟩ : ∃ ok, Hid (decide (CanWrite d side at_ text) = ok) := ⟨_, Lib.hid rfl⟩
  rw [HOK.out]
  go_wp2_with fail
  -- the second write
  refine (ImplDiskWrite_any xm side at_ other _ _ _ _ hty XX.out.reads SX.out).mono ?_
  rintro e4 w4 ⟨h0, h1, hl, rfl, ho, hb4⟩
  obtain ⟨H0, l0, H1, l1, Hl, ll, rfl, rfl, rfl⟩ := ho.forms
  have SY := Lib.hid (short_write (side := side) (at_ := at_) (text := other) (by omega) SX.out)
  have hn4 := Below.new (w := w4) (.cells #[.slice H0 (writeM xm side at_ other).s0.length l0, .slice H1 (writeM xm side at_ other).s1.length l1, .slice Hl (writeM xm side at_ other).late.length ll] 27)
  have XY := Lib.hid (boxed_new ho.reads 27)
  have XD4 := Lib.hid ((XD3.out.below hb4).below hn4)
  have B4 := Lib.hid ((B3.out.trans (hb4.mono B3.out.size)).trans (hn4.mono (Nat.le_trans B3.out.size hb4.size)))
  clear ho hb4 hn4 XD3 B3 XX
  obtain ⟨ym, HYM⟩ : ∃ ym, Hid (writeM xm side at_ other = ym) := ⟨_, Lib.hid rfl⟩
  rw [HYM.out] at XY SY XD4 B4 ⊢
  obtain ⟨fine, HFI⟩ : ∃ fine, Hid (decide (CanWrite xm side at_ other) = fine) := ⟨_, Lib.hid rfl⟩
  rw [HFI.out]
  obtain ⟨x0, x1, x2⟩ := XD4.out.box.three
  go_wp2_with fail
  -- what is told
  refine (DiskWrite_any _ _ _ d side at_ text _ XD4.out.reads HS.out htx).mono ?_
  rintro e5 w5 ⟨t0, t1, tl, rfl, ho, hb5⟩
  obtain ⟨T0, m0, T1, m1, Tl, ml, rfl, rfl, rfl⟩ := ho.forms
  rw [HOK.out, HXM.out]
  have hn5 := Below.new (w := w5) (.cells #[.slice T0 xm.s0.length m0, .slice T1 xm.s1.length m1, .slice Tl xm.late.length ml] 27)
  have XY5 := Lib.hid ((XY.out.below hb5).below hn5)
  have B5 := Lib.hid ((B4.out.trans (hb5.mono B4.out.size)).trans (hn5.mono (Nat.le_trans B4.out.size hb5.size)))
  clear ho hb5 hn5 XD4 B4 XY x0 x1 x2
  cases ok with
  | false =>
    go_wp2
    go_ret
    exact ⟨rfl, B5.out⟩
  | true =>
    cases fine with
    | false =>
      go_wp2
      go_ret
      exact ⟨rfl, B5.out⟩
    | true =>
      have TW := Lib.hid (show Twice d side at_ text other from ⟨of_decide_eq_true HOK.out, by rw [HXM.out]; exact of_decide_eq_true HFI.out⟩)
      have HYY := Lib.hid (show writeM (writeM d side at_ text) side at_ other = ym from by rw [HXM.out]; exact HYM.out)
      clear HOK HFI HXM HYM SX
      obtain ⟨j0, hj_, hy0, hy1, hy2⟩ := info_parts infoInt
      go_wp2_with fail
      generalize hW5 : w5.alloc (.cells #[.slice T0 xm.s0.length m0, .slice T1 xm.s1.length m1, .slice Tl xm.late.length ml] 27) = W5 at XY5 B5 ⊢
      have hws5 : W5.heap.size = w5.heap.size + 1 := by rw [← hW5]; simp
      clear hW5
      have hxl := XY5.out.box.lt
      have HXL := Lib.hid hxl
      have hn6 := Below.new (w := W5) (.cells #[] 3)
      have XY6 := Lib.hid (XY5.out.below hn6)
      have B6 := Lib.hid (B5.out.trans (hn6.mono B5.out.size))
      have hw5 : w.heap.size ≤ W5.heap.size := B5.out.size
      have O6 := Lib.hid (show (W5.alloc (.cells #[] 3)).ownsRow W5.heap.size 3 1 (.slice (some ⟨w5.heap.size + 1, 0, none⟩) 0 0) 0 (ics (List.replicate 0 1)) from own_empty (At.new hws5) (by omega))
      have HWS := Lib.hid hws5
      clear hws5
      have hny := SY.out.nl
      obtain ⟨ny, HNY⟩ : ∃ ny, Hid (ym.late.length = ny) := ⟨_, Lib.hid rfl⟩
      rw [HNY.out] at XY6 hny ⊢
      clear hn6 XY5 B5
      go_loopw [19, 20] (fun v i wr => ∃ (k : Nat) (F : Option Addr) (cf : Nat), k ≤ ny ∧ v = .slice F k cf ∧ i = .int .i64 (k : Int) ∧ W5.heap.size ≤ wr.heap.size ∧ Hid (wr.ownsRow W5.heap.size 3 1 (.slice F k cf) k (ics (List.replicate k 1))) ∧ Hid (Boxed wr w4.heap.size w4.heap.size (.slice H0 ym.s0.length l0) (.slice H1 ym.s1.length l1) (.slice Hl ny ll) ym) ∧ Hid (Below w.heap.size w wr)) (fun _ i _ => ny - (intOf i).toNat)
      case atStart => exact ⟨0, _, _, Nat.zero_le _, rfl, rfl, by simp, O6, XY6, B6⟩
      case round =>
        clear O6 XY6 B6
        obtain ⟨k, F, cf, hk, rfl, rfl, hwr, O, XY, BB⟩ := hrel
        obtain ⟨x0, x1, x2⟩ := XY.out.box.three
        by_cases hlt : k < ny
        · have hk1 : (k : Int) < (ny : Int) := by omega
          go_wp2_with (first
            | (at_builtin; refine wpList_append_lies _ rfl _ _ 32 rfl W5.heap.size 3 j0 _ 1 8 Try.underlying32 hj_ hy0 hy1 hy2 rfl (by omega) _ k (ics (List.replicate k 1)) rfl (O.out.alloc _) ⟨wr.heap.size, 0, none⟩ 1 1 [.int .i64 1] rfl rfl ?c1 (by simp; rfl) (by omega) (by unfold maxLen; omega) (by omega) (by simp; omega) (wr.heap.size + 1) (by simp) ?_))
          case c1 => exact World.news_of_block (cs := #[.int .i64 1]) (t := 3) (fr := (0, 0)) (heap_alloc_new wr _)
          intro gg cap w6 hown6 hgrow hat hglt
          have O7 := Lib.hid (show w6.ownsRow W5.heap.size 3 1 (.slice (some ⟨gg, 0, none⟩) (k + 1) cap) (k + 1) (ics (List.replicate (k + 1) 1)) from by rw [List.replicate_succ', ics_snoc]; exact hown6)
          have hbw : Below W5.heap.size wr w6 := ((Below.refl W5.heap.size wr).alloc hwr _).grown hgrow (by simp; omega) (fun b e => (O.out.lt b e).1)
          have XY7 := Lib.hid (XY.out.under hbw HXL.out)
          have B7 := Lib.hid (BB.out.trans (hbw.mono hw5))
          have hw7 : W5.heap.size ≤ w6.heap.size := Nat.le_trans hwr hbw.size
          clear hown6 hgrow hat hglt hbw O XY BB x0 x1 x2
          go_wp2
          go_roundw
          case rel => exact ⟨k + 1, _, _, by omega, by first | rfl | trivial, by go_num, hw7, O7, XY7, B7⟩
          case measure => simp [intOf]; omega
        · have hkn : k = ny := by omega
          subst hkn
          have hk1 : ¬ (k : Int) < (k : Int) := by omega
          have HR1 := Lib.hid (show readOut ym side at_ = other from by rw [← HYY.out]; exact TW.out.read)
          have HR2 := Lib.hid (show readOut (fallM ym (List.replicate k 1)) side at_ = other from by rw [← HYY.out]; exact TW.out.kept k (by rw [HYY.out]; exact HNY.out.symm))
          obtain ⟨N, HN⟩ : ∃ N, Hid (k = N + 1) := by
            refine ⟨k - 1, Lib.hid ?_⟩
            have h1 := HNY.out
            rw [← HYY.out, TW.out.y] at h1
            simp at h1
            omega
          have HR3 := Lib.hid (show readOut (fallM ym (List.replicate N 1)) side at_ = text from by rw [← HYY.out]; exact TW.out.lost N (by rw [HYY.out, HNY.out]; exact HN.out.symm))
          go_wp2_with fail
          -- read
          refine (ImplDiskRead_any ym side at_ _ _ _ _ XY.out.reads SY.out).mono ?_
          rintro e7 w7 ⟨rfl, hb⟩
          rw [HR1.out]
          generalize decide (CanRead ym side at_) = b1
          have O7 := Lib.hid (own_kept O.out (w' := w7) fun b e => hb.block b (O.out.lt b e).2)
          have XY7 := Lib.hid (XY.out.below hb)
          have B7 := Lib.hid (BB.out.trans (hb.mono BB.out.size))
          clear hb O XY BB x0 x1 x2
          obtain ⟨x0, x1, x2⟩ := XY7.out.box.three
          go_wp2_with fail
          -- all kept
          refine (ImplDiskFall_any ym (List.replicate k 1) _ _ _ _ _ XY7.out.reads SY.out (by simpa using sl_of_own O7.out) (low_of_own O7.out) (by simpa using hny)).mono ?_
          rintro e8 w8 ⟨p0, p1, pl, rfl, hp, hb⟩
          have RP := Lib.hid hp.reads
          have O8 := Lib.hid (own_kept O7.out (w' := w8) fun b e => hb.block b (O7.out.lt b e).2)
          have XY8 := Lib.hid (XY7.out.below hb)
          have B8 := Lib.hid (B7.out.trans (hb.mono B7.out.size))
          clear hb hp O7 XY7 B7 x0 x1 x2
          go_wp2_with fail
          refine (ImplDiskRead_any (fallM ym (List.replicate k 1)) side at_ _ _ _ _ RP.out (short_fall SY.out)).mono ?_
          rintro e9 w9 ⟨rfl, hb⟩
          rw [HR2.out]
          generalize decide (CanRead (fallM ym (List.replicate k 1)) side at_) = b2
          have O9 := Lib.hid (own_kept O8.out (w' := w9) fun b e => hb.block b (O8.out.lt b e).2)
          have XY9 := Lib.hid (XY8.out.below hb)
          have B9 := Lib.hid (B8.out.trans (hb.mono B8.out.size))
          clear hb RP O8 XY8 B8
          obtain ⟨x0, x1, x2⟩ := XY9.out.box.three
          have hlx := XY9.out.box.lt
          have hcap : k ≤ cf ∧ cf ≤ maxLen := by
            obtain ⟨_, F', c', hv, h1, h2, _⟩ := sl_of_own O9.out
            injection hv with q1 q2 q3
            subst q3
            exact ⟨h1, h2⟩
          obtain ⟨hc1, hc2⟩ := hcap
          unfold maxLen at hc2
          obtain ⟨gF, cF, hvF, _, _⟩ := O9.out.form (by have := HN.out; omega)
          injection hvF with q1 q2 q3
          subst q1 q3
          have SL := Lib.hid (Sl.ones (N := N) (by have h := sl_of_own O9.out; rw [HN.out] at h; exact h))
          have LL := Lib.hid (show Low w9.heap.size (.slice (some ⟨gF, 0, none⟩) N cf) from fun b e => low_of_own O9.out b (by simpa [Value.ownBlock] using e))
          have hs1 : IntKind.i64.wrap ((k : Int) - 1) = (N : Int) := by rw [show (k : Int) - 1 = (N : Int) by have := HN.out; omega]; exact IntWalk.i64_in _ (by have := HN.out; omega)
          have hs3 : (0 : Int) ≤ (N : Int) := by omega
          have hs4 : (N : Int) ≤ (cf : Int) := by have := HN.out; omega
          have hcf0 : ¬ cf = 0 := by have := HN.out; omega
          have RYd := Lib.hid (show DiskR w9.drew _ _ _ ym from ⟨XY9.out.reads.r0, XY9.out.reads.r1, XY9.out.reads.rl, XY9.out.reads.l0, XY9.out.reads.l1, XY9.out.reads.ll⟩)
          have SLd := Lib.hid (show Sl w9.drew 1 (.slice (some ⟨gF, 0, none⟩) N cf) (List.replicate N (1 : Int)).length (ics (List.replicate N 1)) from by rw [List.length_replicate]; exact SL.out)
          have HLEN := Lib.hid (show (List.replicate N (1 : Int)).length ≤ 1048576 from by rw [List.length_replicate]; have := HN.out; omega)
          go_wp2_with fail
          go_region_held3 (fun w' => w'.cell? ⟨w4.heap.size, 0, none⟩ = some (.slice H0 ym.s0.length l0) ∧ w'.cell? ⟨w4.heap.size, 1, none⟩ = some (.slice H1 ym.s1.length l1) ∧ w'.cell? ⟨w4.heap.size, 2, none⟩ = some (.slice Hl k ll))
            (first
              | go_keep
              | (go_split_ands
                 refine ⟨?_, ?_, ?_⟩
                 all_goals (rw [hb11.cell (by have := hb10.size; simp at this; simp <;> omega), hb10.cell (by simp <;> omega)]; assumption))
              | (go_split_ands
                 refine ⟨?_, ?_, ?_⟩
                 all_goals (rw [hb10.cell (by simp <;> omega)]; assumption)))
            (first
              | (go_at_call 11; ((refine (ImplDiskFall_any ym (List.replicate N 1) _ _ _ _ _ RYd.out SY.out SLd.out LL.out HLEN.out).mono ?_); rintro e10 w10 ⟨p0, p1, pl, rfl, hp, hb10⟩))
              | (go_at_call 10; ((with_reducible refine (ImplDiskRead_any (fallM ym (List.replicate N 1)) side at_ _ _ _ _ hp.reads (short_fall SY.out)).mono ?_); rintro e11 w11 ⟨rfl, hb11⟩; rw [HR3.out])))
          all_goals
            have B11 := Lib.hid ((B9.out.drew.trans (hb10.mono B9.out.size)).trans (hb11.mono (Nat.le_trans B9.out.size hb10.size)))
            clear hb10 hb11 hp x0 x1 x2 O9 XY9 B9
            go_wp2
            go_ret
            exact ⟨rfl, B11.out⟩
end Go.Proofs.Ytfacbjldpenpjaa
