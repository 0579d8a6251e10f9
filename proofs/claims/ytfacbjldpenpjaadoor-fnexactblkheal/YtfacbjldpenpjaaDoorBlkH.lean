/-
  A block healed: BlkHeal, spec's and impl's.
-/
import Derived.Test.YtfacbjldpenpjaaDoorLBlkRead
import Derived.Test.YtfacbjldpenpjaaDoorPDiskWrite
import Derived.Test.YtfacbjldpenpjaaDoorImDiskWrite
import Derived.Test.YtfacbjldpenpjaaDoorDiskWrite
set_option maxRecDepth 100000
namespace Go.Proofs.YtfacbjldpenpjaaDoor
open Go.ChangeShapes Go.WideShapes Go.ChangeAt Go.RowKit Go.Proofs.Palim

/-- What healing leaves, and its code. -/
def healD (d : DiskM) (p : PtrM) : DiskM :=
  if ¬ DiskOkM d then noDisk else if HasB d p 0 ∧ ¬ HasB d p 1 then writeM d 1 p.at_ (blkText d p) else if ¬ HasB d p 0 ∧ HasB d p 1 then writeM d 0 p.at_ (blkText d p) else d
def healC (d : DiskM) (p : PtrM) : Int :=
  if ¬ DiskOkM d then 2 else if HasB d p 0 ∧ ¬ HasB d p 1 then (if CanWrite d 1 p.at_ (blkText d p) then 0 else 2) else if ¬ HasB d p 0 ∧ HasB d p 1 then (if CanWrite d 0 p.at_ (blkText d p) then 0 else 2) else blkCode d p
theorem blkText_size (d : DiskM) (p : PtrM) : (blkText d p).size ≤ 420 := by
  unfold blkText
  split
  · exact readOut_size _ _ _
  · split
    · exact readOut_size _ _ _
    · exact Nat.zero_le _
theorem short_heal {d : DiskM} {p : PtrM} (h : DiskShort d) : DiskShort (healD d p) := by
  have ht := blkText_size d p
  unfold healD
  split
  · exact short_no
  · split
    · exact short_write (by omega) h
    · split
      · exact short_write (by omega) h
      · exact h
def NewDiskC (w : World) (d : DiskM) (c : Int) (e : Ending) (w' : World) : Prop :=
  ∃ v0 v1 vl, e = .returned (.tuple #[.agg #[v0, v1, vl], .int .i64 c]) ∧ DiskOwn w' w.heap.size v0 v1 vl d ∧ Below w.heap.size w w'
/-- A disk in the box of a result. -/
theorem laid_at {w w' : World} {x : Nat} {v0 v1 vl : Value} {d : DiskM} (_xr : Box w' x [.slice none 0 0, .slice none 0 0, .slice none 0 0]) (ho : DiskOwn w' (x + 1) v0 v1 vl d) (hb : Below w.heap.size w w') (hx : w.heap.size ≤ x) :
    DiskOwn (((w'.setCell ⟨x, 0, none⟩ v0).setCell ⟨x, 1, none⟩ v1).setCell ⟨x, 2, none⟩ vl) w.heap.size v0 v1 vl d ∧ Below w.heap.size w (((w'.setCell ⟨x, 0, none⟩ v0).setCell ⟨x, 1, none⟩ v1).setCell ⟨x, 2, none⟩ vl) :=
  ⟨(ho.set3 (by simp) (by simp) (by simp)).base (by omega), ((hb.setCell hx _).setCell hx _).setCell hx _⟩
theorem write_not {d : DiskM} {side at_ : Int} {text : ByteArray} (h : DiskOkM d) (hc : ¬ CanWrite d side at_ text) : writeM d side at_ text = d := by unfold writeM; rw [if_neg hc, if_pos h]

set_option maxHeartbeats 2000000 in
theorem specBlkHeal_any (v0 v1 vl : Value) (d : DiskM) (p : PtrM) (w : World) (h : DiskR w v0 v1 vl d) (hs : DiskShort d) :
    Calls Tryd.prog 29 #[.agg #[v0, v1, vl], pv p] w (NewDiskC w (healD d p) (healC d p)) := by
  have hnot : ∀ (x : Bool) (w : World), (Op.unary .not (.bool x)).run Tryd.prog w = .ok (.bool (!x)) w := fun _ _ => rfl
  have htx : (blkText d p).size ≤ maxLen := by have := blkText_size d p; unfold maxLen; omega
  obtain ⟨_, A0, c0, rfl, _⟩ := h.r0
  obtain ⟨_, A1, c1, rfl, _⟩ := h.r1
  obtain ⟨_, Al, cl, rfl, _⟩ := h.rl
  have HS := Lib.hid hs
  obtain ⟨hA, hP, hR, hsz, hB⟩ := box3 w #[.slice A0 d.s0.length c0, .slice A1 d.s1.length c1, .slice Al d.late.length cl] #[.int .i64 p.at_, .int .i64 p.sum, .int .i64 p.birth] #[.slice none 0 0, .slice none 0 0, .slice none 0 0] 27 35 27
  have RD := Lib.hid (h.below hB)
  have XD := Lib.hid hA
  have XP := Lib.hid hP
  have XR := Lib.hid hR
  have B0 := Lib.hid hB
  clear hA hP hR hB h hs
  by_cases hok : DiskOkM d
  · have HK := Lib.hid hok
    go_enter Tryd.func29, Tryd.ntmps29
    go_wp2_with fail
    refine (DiskOk_is _ _ _ d _ RD.out HS.out true (decide_eq_true hok)).mono ?_
    rintro e w1 ⟨rfl, hb⟩
    have RD1 := Lib.hid (RD.out.below hb)
    have XD1 := Lib.hid (XD.out.below hb XD.out.lt)
    have XP1 := Lib.hid (XP.out.below hb XP.out.lt)
    have XR1 := Lib.hid (XR.out.below hb XR.out.lt)
    have B1 := Lib.hid (B0.out.trans (hb.mono B0.out.size))
    have hs1 : w.heap.size + 1 + 1 + 1 ≤ w1.heap.size := by have := hb.size; omega
    clear hb RD XD XP XR B0 hsz hok
    obtain ⟨x0, x1, x2⟩ := XD1.out.three
    obtain ⟨y0, y1, y2⟩ := XP1.out.three
    obtain ⟨a, HA⟩ : ∃ a, Hid (decide (HasB d p 0) = a) := ⟨_, Lib.hid rfl⟩
    obtain ⟨b, HBB⟩ : ∃ b, Hid (decide (HasB d p 1) = b) := ⟨_, Lib.hid rfl⟩
    obtain ⟨tx, HTX⟩ : ∃ tx, Hid (blkText d p = tx) := ⟨_, Lib.hid rfl⟩
    obtain ⟨cd, HCD⟩ : ∃ cd, Hid (blkCode d p = cd) := ⟨_, Lib.hid rfl⟩
    rw [HTX.out] at htx
    go_wp2_with fail
    refine (specSide_is _ _ _ d p 0 _ RD1.out HS.out a HA.out).mono ?_
    rintro e w2 ⟨rfl, hb⟩
    have RD2 := Lib.hid (RD1.out.below hb)
    have XD2 := Lib.hid (XD1.out.below hb XD1.out.lt)
    have XP2 := Lib.hid (XP1.out.below hb XP1.out.lt)
    have XR2 := Lib.hid (XR1.out.below hb XR1.out.lt)
    have B2 := Lib.hid (B1.out.trans (hb.mono B1.out.size))
    have hs2 : w.heap.size + 1 + 1 + 1 ≤ w2.heap.size := Nat.le_trans hs1 hb.size
    clear hb RD1 XD1 XP1 XR1 B1 hs1 x0 x1 x2 y0 y1 y2
    obtain ⟨x0, x1, x2⟩ := XD2.out.three
    obtain ⟨y0, y1, y2⟩ := XP2.out.three
    go_wp2_with fail
    refine (specSide_is _ _ _ d p 1 _ RD2.out HS.out b HBB.out).mono ?_
    rintro e w3 ⟨rfl, hb⟩
    have RD3 := Lib.hid (RD2.out.below hb)
    have XD3 := Lib.hid (XD2.out.below hb XD2.out.lt)
    have XP3 := Lib.hid (XP2.out.below hb XP2.out.lt)
    have XR3 := Lib.hid (XR2.out.below hb XR2.out.lt)
    have B3 := Lib.hid (B2.out.trans (hb.mono B2.out.size))
    have hs3 : w.heap.size + 1 + 1 + 1 ≤ w3.heap.size := Nat.le_trans hs2 hb.size
    clear hb RD2 XD2 XP2 XR2 B2 hs2 x0 x1 x2 y0 y1 y2
    obtain ⟨x0, x1, x2⟩ := XD3.out.three
    obtain ⟨y0, y1, y2⟩ := XP3.out.three
    go_wp2_with fail
    refine (specRead_is _ _ _ d p _ RD3.out HS.out tx cd HTX.out HCD.out).mono ?_
    rintro e w4 ⟨rfl, hb⟩
    have RD4 := Lib.hid (RD3.out.below hb)
    have XD4 := Lib.hid (XD3.out.below hb XD3.out.lt)
    have XP4 := Lib.hid (XP3.out.below hb XP3.out.lt)
    have XR4 := Lib.hid (XR3.out.below hb XR3.out.lt)
    have B4 := Lib.hid (B3.out.trans (hb.mono B3.out.size))
    have hs4 : w.heap.size + 1 + 1 + 1 ≤ w4.heap.size := Nat.le_trans hs3 hb.size
    clear hb RD3 XD3 XP3 XR3 B3 hs3 x0 x1 x2 y0 y1 y2
    obtain ⟨x0, x1, x2⟩ := XD4.out.three
    obtain ⟨y0, y1, y2⟩ := XP4.out.three
    by_cases hab : a = b
    · have HF := Lib.hid (show healD d p = d from by
        have h1 : HasB d p 0 ↔ HasB d p 1 := decide_eq_decide.1 (by rw [HA.out, HBB.out, hab])
        unfold healD
        rw [if_neg (not_not_intro HK.out), if_neg (fun h => h.2 (h1.1 h.1)), if_neg (fun h => h.1 (h1.2 h.2))])
      have HF2 := Lib.hid (show healC d p = cd from by
        have h1 : HasB d p 0 ↔ HasB d p 1 := decide_eq_decide.1 (by rw [HA.out, HBB.out, hab])
        unfold healC
        rw [if_neg (not_not_intro HK.out), if_neg (fun h => h.2 (h1.1 h.1)), if_neg (fun h => h.1 (h1.2 h.2)), HCD.out])
      subst hab
      go_wp2_with fail
      refine (l2Copy_any _ _ _ d _ RD4.out HS.out).mono ?_
      rintro e w5 ⟨u0, u1, ul, rfl, ho, hb⟩
      obtain ⟨U0, e0, U1, e1, Ul, el, rfl, rfl, rfl⟩ := ho.forms
      have XR5 := Lib.hid (XR4.out.below hb XR4.out.lt)
      have B5 := Lib.hid (B4.out.trans (hb.mono B4.out.size))
      have HO := Lib.hid (ho.base (base' := w.heap.size + 1 + 1 + 1) hs4)
      clear ho hb XR4 B4 x0 x1 x2 y0 y1 y2 XD4 RD4 XP4
      obtain ⟨r0, r1, r2⟩ := XR5.out.three
      have f0 := XR5.out.open_ 0
      have f1 := XR5.out.open_ 1
      have f2 := XR5.out.open_ 2
      have HQ := Lib.hid (laid_at XR5.out HO.out B5.out (by omega))
      have HQ1 := Lib.hid (XR5.out.set 0 (.slice U0 d.s0.length e0))
      have HQ2 := Lib.hid (HQ1.out.set 1 (.slice U1 d.s1.length e1))
      have HQ3 := Lib.hid (HQ2.out.set 2 (.slice Ul d.late.length el))
      go_wp2
      refine bodyPost_ret (v := .tuple #[.agg #[.slice U0 d.s0.length e0, .slice U1 d.s1.length e1, .slice Ul d.late.length el], .int .i64 cd]) (by simp [results, Tryd.results29, go_sem, HQ1.out.cell 0 rfl, HQ2.out.cell 1 rfl, HQ3.out.cell 2 rfl]) rfl ?_
      rw [HF.out, HF2.out]
      exact ⟨_, _, _, rfl, HQ.out.1, HQ.out.2⟩
    · have HC0 := Lib.hid (show cd = 0 from by
        rw [← HCD.out]
        unfold blkCode
        have h1 : HasB d p 0 ∨ HasB d p 1 := by
          by_cases h0 : HasB d p 0
          · exact Or.inl h0
          · by_cases h1 : HasB d p 1
            · exact Or.inr h1
            · exact absurd (by rw [← HA.out, ← HBB.out, decide_eq_false h0, decide_eq_false h1]) hab
        rw [if_neg (fun hn => h1.elim (null_not d p 0 hn) (null_not d p 1 hn)), if_pos h1])
      obtain rfl := HC0.out
      have hcase : (a = false ∧ b = true) ∨ (a = true ∧ b = false) := by cases a <;> cases b <;> simp_all
      rcases hcase with ⟨rfl, rfl⟩ | ⟨rfl, rfl⟩
      · clear hab
        go_wp2_with fail
        refine (DiskWrite_any _ _ _ d 0 p.at_ tx _ RD4.out HS.out htx).mono ?_
        rintro e w5 ⟨u0, u1, ul, rfl, ho, hb⟩
        obtain ⟨x, HX⟩ : ∃ x, Hid (writeM d 0 p.at_ tx = x) := ⟨_, Lib.hid rfl⟩
        rw [HX.out] at ho
        obtain ⟨U0, e0, U1, e1, Ul, el, rfl, rfl, rfl⟩ := ho.forms
        have hn := Below.new (w := w5) (.cells #[.slice U0 x.s0.length e0, .slice U1 x.s1.length e1, .slice Ul x.late.length el] 27)
        have RD5 := Lib.hid ((RD4.out.below hb).below hn)
        have XD5 := Lib.hid ((XD4.out.below hb XD4.out.lt).alloc (.cells #[.slice U0 x.s0.length e0, .slice U1 x.s1.length e1, .slice Ul x.late.length el] 27))
        have XR5 := Lib.hid ((XR4.out.below hb XR4.out.lt).alloc (.cells #[.slice U0 x.s0.length e0, .slice U1 x.s1.length e1, .slice Ul x.late.length el] 27))
        have XO := Lib.hid (box_new w5 #[.slice U0 x.s0.length e0, .slice U1 x.s1.length e1, .slice Ul x.late.length el] 27)
        have hs5 : w.heap.size + 1 + 1 + 1 ≤ w5.heap.size := Nat.le_trans hs4 hb.size
        have B5 := Lib.hid ((B4.out.trans (hb.mono B4.out.size)).trans (hn.mono (Nat.le_trans B4.out.size hb.size)))
        have HO := Lib.hid ((ho.below hn).base (base' := w.heap.size + 1 + 1 + 1) hs4)
        clear ho hb hn XR4 B4 x0 x1 x2 y0 y1 y2 XD4 RD4 XP4
        by_cases hc : CanWrite d 0 p.at_ tx
        · have HF := Lib.hid (show healD d p = x from by unfold healD; rw [if_neg (not_not_intro HK.out), if_neg (fun h => (show ¬ HasB d p 0 from of_decide_eq_false HA.out) h.1), if_pos ⟨(show ¬ HasB d p 0 from of_decide_eq_false HA.out), (show HasB d p 1 from of_decide_eq_true HBB.out)⟩, HTX.out, HX.out])
          have HF2 := Lib.hid (show healC d p = 0 from by unfold healC; rw [if_neg (not_not_intro HK.out), if_neg (fun h => (show ¬ HasB d p 0 from of_decide_eq_false HA.out) h.1), if_pos ⟨(show ¬ HasB d p 0 from of_decide_eq_false HA.out), (show HasB d p 1 from of_decide_eq_true HBB.out)⟩, HTX.out, if_pos hc])
          rw [decide_eq_true hc]
          clear hc
          obtain ⟨x0, x1, x2⟩ := XO.out.three
          obtain ⟨r0, r1, r2⟩ := XR5.out.three
          have f0 := XR5.out.open_ 0
          have f1 := XR5.out.open_ 1
          have f2 := XR5.out.open_ 2
          have HQ := Lib.hid (laid_at XR5.out HO.out B5.out (by omega))
          have HQ1 := Lib.hid (XR5.out.set 0 (.slice U0 x.s0.length e0))
          have HQ2 := Lib.hid (HQ1.out.set 1 (.slice U1 x.s1.length e1))
          have HQ3 := Lib.hid (HQ2.out.set 2 (.slice Ul x.late.length el))
          go_wp2
          refine bodyPost_ret (v := .tuple #[.agg #[.slice U0 x.s0.length e0, .slice U1 x.s1.length e1, .slice Ul x.late.length el], .int .i64 0]) (by simp [results, Tryd.results29, go_sem, HQ1.out.cell 0 rfl, HQ2.out.cell 1 rfl, HQ3.out.cell 2 rfl]) rfl ?_
          rw [HF.out, HF2.out]
          exact ⟨_, _, _, rfl, HQ.out.1, HQ.out.2⟩
        · have HF := Lib.hid (show healD d p = d from by unfold healD; rw [if_neg (not_not_intro HK.out), if_neg (fun h => (show ¬ HasB d p 0 from of_decide_eq_false HA.out) h.1), if_pos ⟨(show ¬ HasB d p 0 from of_decide_eq_false HA.out), (show HasB d p 1 from of_decide_eq_true HBB.out)⟩, HTX.out, write_not HK.out hc])
          have HF2 := Lib.hid (show healC d p = 2 from by unfold healC; rw [if_neg (not_not_intro HK.out), if_neg (fun h => (show ¬ HasB d p 0 from of_decide_eq_false HA.out) h.1), if_pos ⟨(show ¬ HasB d p 0 from of_decide_eq_false HA.out), (show HasB d p 1 from of_decide_eq_true HBB.out)⟩, HTX.out, if_neg hc])
          rw [decide_eq_false hc]
          clear hc
          obtain ⟨x0, x1, x2⟩ := XD5.out.three
          go_wp2_with fail
          refine (l2Copy_any _ _ _ d _ RD5.out HS.out).mono ?_
          rintro e w6 ⟨g0, g1, gl, rfl, ho, hb⟩
          obtain ⟨G0, k0, G1, k1, Gl, kl, rfl, rfl, rfl⟩ := ho.forms
          have XR6 := Lib.hid (XR5.out.below hb XR5.out.lt)
          have B6 := Lib.hid (B5.out.trans (hb.mono B5.out.size))
          have HO6 := Lib.hid (ho.base (base' := w.heap.size + 1 + 1 + 1) (by simp; omega))
          clear ho hb XR5 B5 x0 x1 x2 XD5 RD5 XO HO
          obtain ⟨r0, r1, r2⟩ := XR6.out.three
          have f0 := XR6.out.open_ 0
          have f1 := XR6.out.open_ 1
          have f2 := XR6.out.open_ 2
          have HQ := Lib.hid (laid_at XR6.out HO6.out B6.out (by omega))
          have HQ1 := Lib.hid (XR6.out.set 0 (.slice G0 d.s0.length k0))
          have HQ2 := Lib.hid (HQ1.out.set 1 (.slice G1 d.s1.length k1))
          have HQ3 := Lib.hid (HQ2.out.set 2 (.slice Gl d.late.length kl))
          go_wp2
          refine bodyPost_ret (v := .tuple #[.agg #[.slice G0 d.s0.length k0, .slice G1 d.s1.length k1, .slice Gl d.late.length kl], .int .i64 2]) (by simp [results, Tryd.results29, go_sem, HQ1.out.cell 0 rfl, HQ2.out.cell 1 rfl, HQ3.out.cell 2 rfl]) rfl ?_
          rw [HF.out, HF2.out]
          exact ⟨_, _, _, rfl, HQ.out.1, HQ.out.2⟩
      · clear hab
        go_wp2_with fail
        refine (DiskWrite_any _ _ _ d 1 p.at_ tx _ RD4.out HS.out htx).mono ?_
        rintro e w5 ⟨u0, u1, ul, rfl, ho, hb⟩
        obtain ⟨x, HX⟩ : ∃ x, Hid (writeM d 1 p.at_ tx = x) := ⟨_, Lib.hid rfl⟩
        rw [HX.out] at ho
        obtain ⟨U0, e0, U1, e1, Ul, el, rfl, rfl, rfl⟩ := ho.forms
        have hn := Below.new (w := w5) (.cells #[.slice U0 x.s0.length e0, .slice U1 x.s1.length e1, .slice Ul x.late.length el] 27)
        have RD5 := Lib.hid ((RD4.out.below hb).below hn)
        have XD5 := Lib.hid ((XD4.out.below hb XD4.out.lt).alloc (.cells #[.slice U0 x.s0.length e0, .slice U1 x.s1.length e1, .slice Ul x.late.length el] 27))
        have XR5 := Lib.hid ((XR4.out.below hb XR4.out.lt).alloc (.cells #[.slice U0 x.s0.length e0, .slice U1 x.s1.length e1, .slice Ul x.late.length el] 27))
        have XO := Lib.hid (box_new w5 #[.slice U0 x.s0.length e0, .slice U1 x.s1.length e1, .slice Ul x.late.length el] 27)
        have hs5 : w.heap.size + 1 + 1 + 1 ≤ w5.heap.size := Nat.le_trans hs4 hb.size
        have B5 := Lib.hid ((B4.out.trans (hb.mono B4.out.size)).trans (hn.mono (Nat.le_trans B4.out.size hb.size)))
        have HO := Lib.hid ((ho.below hn).base (base' := w.heap.size + 1 + 1 + 1) hs4)
        clear ho hb hn XR4 B4 x0 x1 x2 y0 y1 y2 XD4 RD4 XP4
        by_cases hc : CanWrite d 1 p.at_ tx
        · have HF := Lib.hid (show healD d p = x from by unfold healD; rw [if_neg (not_not_intro HK.out), if_pos ⟨(show HasB d p 0 from of_decide_eq_true HA.out), (show ¬ HasB d p 1 from of_decide_eq_false HBB.out)⟩, HTX.out, HX.out])
          have HF2 := Lib.hid (show healC d p = 0 from by unfold healC; rw [if_neg (not_not_intro HK.out), if_pos ⟨(show HasB d p 0 from of_decide_eq_true HA.out), (show ¬ HasB d p 1 from of_decide_eq_false HBB.out)⟩, HTX.out, if_pos hc])
          rw [decide_eq_true hc]
          clear hc
          obtain ⟨x0, x1, x2⟩ := XO.out.three
          obtain ⟨r0, r1, r2⟩ := XR5.out.three
          have f0 := XR5.out.open_ 0
          have f1 := XR5.out.open_ 1
          have f2 := XR5.out.open_ 2
          have HQ := Lib.hid (laid_at XR5.out HO.out B5.out (by omega))
          have HQ1 := Lib.hid (XR5.out.set 0 (.slice U0 x.s0.length e0))
          have HQ2 := Lib.hid (HQ1.out.set 1 (.slice U1 x.s1.length e1))
          have HQ3 := Lib.hid (HQ2.out.set 2 (.slice Ul x.late.length el))
          go_wp2
          refine bodyPost_ret (v := .tuple #[.agg #[.slice U0 x.s0.length e0, .slice U1 x.s1.length e1, .slice Ul x.late.length el], .int .i64 0]) (by simp [results, Tryd.results29, go_sem, HQ1.out.cell 0 rfl, HQ2.out.cell 1 rfl, HQ3.out.cell 2 rfl]) rfl ?_
          rw [HF.out, HF2.out]
          exact ⟨_, _, _, rfl, HQ.out.1, HQ.out.2⟩
        · have HF := Lib.hid (show healD d p = d from by unfold healD; rw [if_neg (not_not_intro HK.out), if_pos ⟨(show HasB d p 0 from of_decide_eq_true HA.out), (show ¬ HasB d p 1 from of_decide_eq_false HBB.out)⟩, HTX.out, write_not HK.out hc])
          have HF2 := Lib.hid (show healC d p = 2 from by unfold healC; rw [if_neg (not_not_intro HK.out), if_pos ⟨(show HasB d p 0 from of_decide_eq_true HA.out), (show ¬ HasB d p 1 from of_decide_eq_false HBB.out)⟩, HTX.out, if_neg hc])
          rw [decide_eq_false hc]
          clear hc
          obtain ⟨x0, x1, x2⟩ := XD5.out.three
          go_wp2_with fail
          refine (l2Copy_any _ _ _ d _ RD5.out HS.out).mono ?_
          rintro e w6 ⟨g0, g1, gl, rfl, ho, hb⟩
          obtain ⟨G0, k0, G1, k1, Gl, kl, rfl, rfl, rfl⟩ := ho.forms
          have XR6 := Lib.hid (XR5.out.below hb XR5.out.lt)
          have B6 := Lib.hid (B5.out.trans (hb.mono B5.out.size))
          have HO6 := Lib.hid (ho.base (base' := w.heap.size + 1 + 1 + 1) (by simp; omega))
          clear ho hb XR5 B5 x0 x1 x2 XD5 RD5 XO HO
          obtain ⟨r0, r1, r2⟩ := XR6.out.three
          have f0 := XR6.out.open_ 0
          have f1 := XR6.out.open_ 1
          have f2 := XR6.out.open_ 2
          have HQ := Lib.hid (laid_at XR6.out HO6.out B6.out (by omega))
          have HQ1 := Lib.hid (XR6.out.set 0 (.slice G0 d.s0.length k0))
          have HQ2 := Lib.hid (HQ1.out.set 1 (.slice G1 d.s1.length k1))
          have HQ3 := Lib.hid (HQ2.out.set 2 (.slice Gl d.late.length kl))
          go_wp2
          refine bodyPost_ret (v := .tuple #[.agg #[.slice G0 d.s0.length k0, .slice G1 d.s1.length k1, .slice Gl d.late.length kl], .int .i64 2]) (by simp [results, Tryd.results29, go_sem, HQ1.out.cell 0 rfl, HQ2.out.cell 1 rfl, HQ3.out.cell 2 rfl]) rfl ?_
          rw [HF.out, HF2.out]
          exact ⟨_, _, _, rfl, HQ.out.1, HQ.out.2⟩
  · have HF := Lib.hid (show healD d p = noDisk from by unfold healD; rw [if_pos hok])
    have HF2 := Lib.hid (show healC d p = 2 from by unfold healC; rw [if_pos hok])
    go_enter Tryd.func29, Tryd.ntmps29
    go_wp2_with fail
    refine (DiskOk_is _ _ _ d _ RD.out HS.out false (decide_eq_false hok)).mono ?_
    rintro e w1 ⟨rfl, hb⟩
    have XR1 := Lib.hid (XR.out.below hb XR.out.lt)
    have B1 := Lib.hid (B0.out.trans (hb.mono B0.out.size))
    clear hb RD XD XR XP B0 hsz hok
    obtain ⟨x0, x1, x2⟩ := XR1.out.three
    have f0 := XR1.out.open_ 0
    have f1 := XR1.out.open_ 1
    have f2 := XR1.out.open_ 2
    go_wp2
    have q1 := XR1.out.set 0 (.slice none 0 0)
    have q2 := q1.set 1 (.slice none 0 0)
    have q3 := q2.set 2 (.slice none 0 0)
    refine bodyPost_ret (v := .tuple #[.agg #[.slice none 0 0, .slice none 0 0, .slice none 0 0], .int .i64 2]) (by simp [results, Tryd.results29, go_sem, q1.cell 0 rfl, q2.cell 1 rfl, q3.cell 2 rfl]) rfl ?_
    rw [HF.out, HF2.out]
    exact ⟨_, _, _, rfl, noDisk_own _ _, ((B1.out.setCell (by simp; omega) _).setCell (by simp; omega) _).setCell (by simp; omega) _⟩
end Go.Proofs.YtfacbjldpenpjaaDoor
