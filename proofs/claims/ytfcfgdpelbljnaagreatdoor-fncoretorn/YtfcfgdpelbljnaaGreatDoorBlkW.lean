/-
  A block written to both sides: BlkWrite, spec's and impl's.
-/
import Derived.Test.YtfcfgdpelbljnaaGreatDoorPDiskWrite
import Derived.Test.YtfcfgdpelbljnaaGreatDoorIms
import Derived.Test.YtfcfgdpelbljnaaGreatDoorDisks
set_option maxRecDepth 100000
namespace Go.Proofs.YtfcfgdpelbljnaaGreatDoor
open Go.ChangeShapes Go.WideShapes Go.ChangeAt Go.RowKit Go.Proofs.Palim

/-- What BlkWrite leaves. -/
def blkM (d : DiskM) (at_ : Int) (text : ByteArray) : DiskM :=
  if ¬ DiskOkM d then noDisk else if 598 < d.late.length then d else if CanWrite d 0 at_ text then writeM (writeM d 0 at_ text) 1 at_ text else writeM d 0 at_ text
def CanBlk (d : DiskM) (at_ : Int) (text : ByteArray) : Prop := DiskOkM d ∧ ¬ 598 < d.late.length ∧ CanWrite d 0 at_ text ∧ CanWrite (writeM d 0 at_ text) 1 at_ text
instance (d : DiskM) (at_ : Int) (text : ByteArray) : Decidable (CanBlk d at_ text) := by unfold CanBlk; infer_instance
theorem short_blk {d : DiskM} {at_ : Int} {text : ByteArray} (ht : text.size ≤ 1048576) (h : DiskShort d) : DiskShort (blkM d at_ text) := by
  unfold blkM
  split
  · exact short_no
  · split
    · exact h
    · split
      · exact short_write ht (short_write ht h)
      · exact short_write ht h

/-- A disk in the box of a result that lies behind the first block of the call. -/
theorem laid_back {w w' : World} {v0 v1 vl : Value} {d : DiskM} (xr : Box w' (w.heap.size + 1) [.slice none 0 0, .slice none 0 0, .slice none 0 0]) (ho : DiskOwn w' (w.heap.size + 2) v0 v1 vl d) (hb : Below w.heap.size w w') :
    DiskOwn (((w'.setCell ⟨w.heap.size + 1, 0, none⟩ v0).setCell ⟨w.heap.size + 1, 1, none⟩ v1).setCell ⟨w.heap.size + 1, 2, none⟩ vl) w.heap.size v0 v1 vl d ∧ Below w.heap.size w (((w'.setCell ⟨w.heap.size + 1, 0, none⟩ v0).setCell ⟨w.heap.size + 1, 1, none⟩ v1).setCell ⟨w.heap.size + 1, 2, none⟩ vl) :=
  ⟨(ho.set3 (by simp) (by simp) (by simp)).base (by omega), ((hb.setCell (by simp) _).setCell (by simp) _).setCell (by simp) _⟩

set_option maxHeartbeats 1000000 in
theorem specBlkWrite_any (v0 v1 vl : Value) (d : DiskM) (at_ : Int) (text : ByteArray) (w : World) (h : DiskR w v0 v1 vl d) (hs : DiskShort d) (hz : text.size ≤ 1048576) :
    Calls Tryz.prog 40 #[.agg #[v0, v1, vl], .int .i64 at_, .string text] w (NewDisk2 w (blkM d at_ text) (decide (CanBlk d at_ text))) := by
  have hnot : ∀ (x : Bool) (w : World), (Op.unary .not (.bool x)).run Tryz.prog w = .ok (.bool (!x)) w := fun _ _ => rfl
  have hzm : text.size ≤ maxLen := by unfold maxLen; omega
  obtain ⟨_, A0, c0, rfl, _⟩ := h.r0
  obtain ⟨_, A1, c1, rfl, _⟩ := h.r1
  obtain ⟨_, Al, cl, rfl, _⟩ := h.rl
  have HD := Lib.hid h
  have HS := Lib.hid hs
  have hnl := hs.nl
  clear h hs
  obtain ⟨hA, hR, hsz, hB⟩ := box2 w #[.slice A0 d.s0.length c0, .slice A1 d.s1.length c1, .slice Al d.late.length cl] #[.slice none 0 0, .slice none 0 0, .slice none 0 0] 32 32
  have RD := Lib.hid (HD.out.below hB)
  have XD := Lib.hid hA
  have XR := Lib.hid hR
  have B0 := Lib.hid hB
  clear hA hR hB
  by_cases hok : DiskOkM d
  · have hok' := Lib.hid (decide_eq_true hok)
    have HK := Lib.hid hok
    go_enter Tryz.func40, Tryz.ntmps40
    go_wp2_with fail
    refine (DiskOk_is _ _ _ d _ RD.out HS.out true hok'.out).mono ?_
    rintro e w1 ⟨rfl, hb⟩
    have RD1 := Lib.hid (RD.out.below hb)
    have XD1 := Lib.hid (XD.out.below hb (by omega))
    have XR1 := Lib.hid (XR.out.below hb (by omega))
    have B1 := Lib.hid (B0.out.trans (hb.mono (by omega)))
    have hs1 : w.heap.size + 2 ≤ w1.heap.size := by have := hb.size; omega
    clear hb RD XD XR B0 hsz hok hok'
    obtain ⟨nl, HL⟩ : ∃ n, Hid (d.late.length = n) := ⟨_, Lib.hid rfl⟩
    rw [HL.out] at XD1 RD1 hnl ⊢
    obtain ⟨x0, x1, x2⟩ := XD1.out.three
    by_cases hlong : 598 < nl
    · have HF := Lib.hid (show blkM d at_ text = d from by unfold blkM; rw [if_neg (by exact not_not_intro HK.out), if_pos (by rw [HL.out]; exact hlong)])
      have HF2 := Lib.hid (decide_eq_false (show ¬ CanBlk d at_ text from fun h => h.2.1 (by rw [HL.out]; exact hlong)))
      go_wp2_with fail
      refine (l2Copy_any _ _ _ d _ RD1.out HS.out).mono ?_
      rintro e w2 ⟨u0, u1, ul, rfl, ho, hb⟩
      obtain ⟨U0, e0, U1, e1, Ul, el, rfl, rfl, rfl⟩ := ho.forms
      have XR2 := Lib.hid (XR1.out.below hb (by omega))
      have B2 := Lib.hid (B1.out.trans (hb.mono (by omega)))
      have HO := Lib.hid (ho.base (base' := w.heap.size + 2) hs1)
      clear ho hb XR1 B1 x0 x1 x2 XD1 RD1
      obtain ⟨r0, r1, r2⟩ := XR2.out.three
      have f0 := XR2.out.open_ 0
      have f1 := XR2.out.open_ 1
      have f2 := XR2.out.open_ 2
      have hq := laid_back XR2.out HO.out B2.out
      have q1 := XR2.out.set 0 (.slice U0 d.s0.length e0)
      have q2 := q1.set 1 (.slice U1 d.s1.length e1)
      have q3 := q2.set 2 (.slice Ul d.late.length el)
      have HQ := Lib.hid hq
      have HQ1 := Lib.hid q1
      have HQ2 := Lib.hid q2
      have HQ3 := Lib.hid q3
      clear hq q1 q2 q3
      go_wp2
      refine bodyPost_ret (v := .tuple #[.agg #[.slice U0 d.s0.length e0, .slice U1 d.s1.length e1, .slice Ul d.late.length el], .bool false]) (by simp [results, Tryz.results40, go_sem, HQ1.out.cell 0 rfl, HQ2.out.cell 1 rfl, HQ3.out.cell 2 rfl]) rfl ?_
      rw [HF.out, HF2.out]
      exact ⟨_, _, _, rfl, HQ.out.1, HQ.out.2⟩
    · obtain ⟨x, HX⟩ : ∃ x, Hid (writeM d 0 at_ text = x) := ⟨_, Lib.hid rfl⟩
      have SX := Lib.hid (HX.out ▸ short_write hz HS.out)
      go_wp2_with fail
      refine (DiskWrite_any _ _ _ d 0 at_ text _ RD1.out HS.out hzm).mono ?_
      rintro e w2 ⟨u0, u1, ul, rfl, ho, hb⟩
      rw [HX.out] at ho
      obtain ⟨U0, e0, U1, e1, Ul, el, rfl, rfl, rfl⟩ := ho.forms
      have hn := Below.new (w := w2) (.cells #[.slice U0 x.s0.length e0, .slice U1 x.s1.length e1, .slice Ul x.late.length el] 32)
      have XR2 := Lib.hid ((XR1.out.below hb (by omega)).alloc (.cells #[.slice U0 x.s0.length e0, .slice U1 x.s1.length e1, .slice Ul x.late.length el] 32))
      have XO := Lib.hid (boxed_new ho.reads 32)
      have hs2 := hb.size
      have B2 := Lib.hid ((B1.out.trans (hb.mono (by omega))).trans (hn.mono (by omega)))
      have HO := Lib.hid ((ho.below hn).base (base' := w.heap.size + 2) hs1)
      clear ho hb hn XR1 B1 x0 x1 x2 XD1 RD1
      by_cases hc : CanWrite d 0 at_ text
      · have HC := Lib.hid hc
        rw [decide_eq_true hc]
        clear hc
        go_wp2_with fail
        refine (DiskWrite_any _ _ _ x 1 at_ text _ XO.out.reads SX.out hzm).mono ?_
        rintro e w3 ⟨g0, g1, gl, rfl, ho, hb⟩
        obtain ⟨y, HY⟩ : ∃ y, Hid (writeM x 1 at_ text = y) := ⟨_, Lib.hid rfl⟩
        rw [HY.out] at ho
        obtain ⟨G0, k0, G1, k1, Gl, kl, rfl, rfl, rfl⟩ := ho.forms
        have XR3 := Lib.hid (XR2.out.below hb (XR2.out.lt))
        have B3 := Lib.hid (B2.out.trans (hb.mono B2.out.size))
        have HO3 := Lib.hid (ho.base (base' := w.heap.size + 2) (by simp; omega))
        clear ho hb XR2 B2 XO HO
        obtain ⟨b, HB⟩ : ∃ b, Hid (decide (CanWrite x 1 at_ text) = b) := ⟨_, Lib.hid rfl⟩
        rw [HB.out]
        have HF := Lib.hid (show blkM d at_ text = y from by unfold blkM; rw [if_neg (by exact not_not_intro HK.out), if_neg (by rw [HL.out]; exact hlong), if_pos HC.out, HX.out, HY.out])
        have HF2 := Lib.hid (show decide (CanBlk d at_ text) = b from by rw [← HB.out]; exact decide_eq_decide.2 ⟨fun h => by have := h.2.2.2; rwa [HX.out] at this, fun h => ⟨HK.out, by rw [HL.out]; exact hlong, HC.out, by rw [HX.out]; exact h⟩⟩)
        obtain ⟨r0, r1, r2⟩ := XR3.out.three
        have f0 := XR3.out.open_ 0
        have f1 := XR3.out.open_ 1
        have f2 := XR3.out.open_ 2
        have HQ := Lib.hid (laid_back XR3.out HO3.out B3.out)
        have HQ1 := Lib.hid (XR3.out.set 0 (.slice G0 y.s0.length k0))
        have HQ2 := Lib.hid (HQ1.out.set 1 (.slice G1 y.s1.length k1))
        have HQ3 := Lib.hid (HQ2.out.set 2 (.slice Gl y.late.length kl))
        go_wp2
        refine bodyPost_ret (v := .tuple #[.agg #[.slice G0 y.s0.length k0, .slice G1 y.s1.length k1, .slice Gl y.late.length kl], .bool b]) (by simp [results, Tryz.results40, go_sem, HQ1.out.cell 0 rfl, HQ2.out.cell 1 rfl, HQ3.out.cell 2 rfl]) rfl ?_
        rw [HF.out, HF2.out]
        exact ⟨_, _, _, rfl, HQ.out.1, HQ.out.2⟩
      · have HC := Lib.hid hc
        rw [decide_eq_false hc]
        clear hc
        have HF := Lib.hid (show blkM d at_ text = x from by unfold blkM; rw [if_neg (by exact not_not_intro HK.out), if_neg (by rw [HL.out]; exact hlong), if_neg HC.out, HX.out])
        have HF2 := Lib.hid (decide_eq_false (show ¬ CanBlk d at_ text from fun h => HC.out h.2.2.1))
        obtain ⟨x0, x1, x2⟩ := XO.out.box.three
        obtain ⟨r0, r1, r2⟩ := XR2.out.three
        have f0 := XR2.out.open_ 0
        have f1 := XR2.out.open_ 1
        have f2 := XR2.out.open_ 2
        have HQ := Lib.hid (laid_back XR2.out HO.out B2.out)
        have HQ1 := Lib.hid (XR2.out.set 0 (.slice U0 x.s0.length e0))
        have HQ2 := Lib.hid (HQ1.out.set 1 (.slice U1 x.s1.length e1))
        have HQ3 := Lib.hid (HQ2.out.set 2 (.slice Ul x.late.length el))
        go_wp2
        refine bodyPost_ret (v := .tuple #[.agg #[.slice U0 x.s0.length e0, .slice U1 x.s1.length e1, .slice Ul x.late.length el], .bool false]) (by simp [results, Tryz.results40, go_sem, HQ1.out.cell 0 rfl, HQ2.out.cell 1 rfl, HQ3.out.cell 2 rfl]) rfl ?_
        rw [HF.out, HF2.out]
        exact ⟨_, _, _, rfl, HQ.out.1, HQ.out.2⟩
  · have hok' := Lib.hid (decide_eq_false hok)
    have HF := Lib.hid (show blkM d at_ text = noDisk from by unfold blkM; rw [if_pos hok])
    have HF2 := Lib.hid (decide_eq_false (show ¬ CanBlk d at_ text from fun h => hok h.1))
    clear hok
    go_enter Tryz.func40, Tryz.ntmps40
    go_wp2_with fail
    refine (DiskOk_is _ _ _ d _ RD.out HS.out false hok'.out).mono ?_
    rintro e w1 ⟨rfl, hb⟩
    have XR1 := Lib.hid (XR.out.below hb (by omega))
    have B1 := Lib.hid (B0.out.trans (hb.mono (by omega)))
    clear hb RD XD XR B0 hsz
    obtain ⟨x0, x1, x2⟩ := XR1.out.three
    have f0 := XR1.out.open_ 0
    have f1 := XR1.out.open_ 1
    have f2 := XR1.out.open_ 2
    go_wp2
    have q1 := XR1.out.set 0 (.slice none 0 0)
    have q2 := q1.set 1 (.slice none 0 0)
    have q3 := q2.set 2 (.slice none 0 0)
    refine bodyPost_ret (v := .tuple #[.agg #[.slice none 0 0, .slice none 0 0, .slice none 0 0], .bool false]) (by simp [results, Tryz.results40, go_sem, q1.cell 0 rfl, q2.cell 1 rfl, q3.cell 2 rfl]) rfl ?_
    rw [HF.out, HF2.out]
    exact ⟨_, _, _, rfl, noDisk_own _ _, ((B1.out.setCell (by simp) _).setCell (by simp) _).setCell (by simp) _⟩
end Go.Proofs.YtfcfgdpelbljnaaGreatDoor
