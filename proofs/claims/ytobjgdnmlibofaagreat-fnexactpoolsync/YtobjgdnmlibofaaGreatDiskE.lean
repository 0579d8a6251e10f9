/-
  Disks compared, sized, marked, asked for marks.
-/
import Derived.Test.YtobjgdnmlibofaaGreatDiskV
set_option maxRecDepth 100000
namespace Go.Proofs.YtobjgdnmlibofaaGreat
open Go.ChangeShapes Go.WideShapes Go.ChangeAt Go.RowKit Go.Proofs.Palim

set_option maxHeartbeats 400000 in
theorem eqDisk_same (a0 a1 al b0 b1 bl : Value) (d : DiskM) (w : World) (ha : DiskR w a0 a1 al d) (hb : DiskR w b0 b1 bl d) (hs : DiskShort d) :
    Calls Tryz.prog 30 #[.agg #[a0, a1, al], .agg #[b0, b1, bl]] w fun e w' => e = .returned (.bool true) ∧ Below w.heap.size w w' := by
  have hnot : ∀ (x : Bool) (w : World), (Op.unary .not (.bool x)).run Tryz.prog w = .ok (.bool (!x)) w := fun _ _ => rfl
  have HA := Lib.hid ha
  have HC := Lib.hid hb
  have HS := Lib.hid hs
  clear ha hb hs
  go_enter Tryz.func30, Tryz.ntmps30
  go_wp2_with fail
  obtain ⟨hA, hC, hsz, hB⟩ := box2 w #[a0, a1, al] #[b0, b1, bl] 39 39
  have HA1 := Lib.hid (HA.out.below hB)
  have HC1 := Lib.hid (HC.out.below hB)
  refine (eqStringSA2_same a0 a1 b0 b1 d.s0 d.s1 _ HA1.out.r0 HA1.out.r1 HC1.out.r0 HC1.out.r1 HA1.out.l0 HA1.out.l1 HC1.out.l0 HC1.out.l1 HS.out.n0 HS.out.n1).mono ?_
  rintro e w2 ⟨rfl, hb⟩
  have HX := Lib.hid (hA.below hb (by omega))
  have HY := Lib.hid (hC.below hb (by omega))
  have HB := Lib.hid (hB.trans (hb.mono (by omega)))
  have HA2 := Lib.hid (HA1.out.below hb)
  have HC2 := Lib.hid (HC1.out.below hb)
  clear hA hC hsz hB hb HA1 HC1
  obtain ⟨x0, x1, x2⟩ := HX.out.three
  obtain ⟨y0, y1, y2⟩ := HY.out.three
  go_wp2_with fail
  refine (eqDiskLateS_same al bl d.late _ HA2.out.rl HC2.out.rl HA2.out.ll HC2.out.ll HS.out.nl).mono ?_
  rintro e w3 ⟨rfl, hb⟩
  have HB3 := Lib.hid (HB.out.trans (hb.mono HB.out.size))
  clear hb HB HX HY HA2 HC2 x0 x1 x2 y0 y1 y2
  go_wp2
  go_ret
  exact ⟨rfl, HB3.out⟩

def dsz (d : DiskM) : Nat := d.s0.length + tot d.s0 + (d.s1.length + tot d.s1) + (d.late.length + tot (d.late.map (·.text)))

set_option maxHeartbeats 400000 in
theorem szDisk_any (a0 a1 al : Value) (d : DiskM) (left : Int) (w : World) (ha : DiskR w a0 a1 al d) (hz0 : ∀ s ∈ d.s0, s.size ≤ maxLen) (hz1 : ∀ s ∈ d.s1, s.size ≤ maxLen) (hzl : ∀ x ∈ d.late, x.text.size ≤ maxLen) (hl0 : 0 ≤ left) (hl1 : left ≤ 1048576) :
    Calls Tryz.prog 23 #[.agg #[a0, a1, al], .int .i64 left] w fun e w' => (∃ r : Int, e = .returned (.int .i64 r) ∧ (r = -1 ∨ 0 ≤ r ∧ r + (dsz d : Nat) = left)) ∧ Below w.heap.size w w' := by
  have HA := Lib.hid ha
  have HZ0 := Lib.hid hz0
  have HZ1 := Lib.hid hz1
  have HZL := Lib.hid hzl
  clear ha hz0 hz1 hzl
  go_enter Tryz.func23, Tryz.ntmps23
  go_wp2_with fail
  obtain ⟨hA, hsz, hB⟩ := box1 w #[a0, a1, al] 26
  have HA1 := Lib.hid (HA.out.below hB)
  refine (szStringSA2_any a0 a1 d.s0 d.s1 left _ HA1.out.r0 HA1.out.r1 HA1.out.l0 HA1.out.l1 HZ0.out HZ1.out hl0 hl1).mono ?_
  rintro e w2 ⟨⟨r, rfl, hr⟩, hb⟩
  have HX := Lib.hid (hA.below hb (by omega))
  have HB := Lib.hid (hB.trans (hb.mono (by omega)))
  have HA2 := Lib.hid (HA1.out.below hb)
  clear hA hsz hB hb HA1
  obtain ⟨x0, x1, x2⟩ := HX.out.three
  rcases hr with rfl | ⟨hr0, hr1⟩
  · go_wp2
    go_ret
    exact ⟨⟨-1, rfl, Or.inl rfl⟩, HB.out⟩
  · have hr2 : ¬ r < 0 := by omega
    have hr3 : r ≤ 1048576 := by omega
    have HR := Lib.hid hr1
    clear hr1
    go_wp2_with fail
    refine (szDiskLateS_any al d.late r _ HA2.out.rl HA2.out.ll HZL.out hr0 hr3).mono ?_
    rintro e w3 ⟨⟨q, rfl, hq⟩, hb⟩
    have HB3 := Lib.hid (HB.out.trans (hb.mono HB.out.size))
    clear hb HB HX HA2 x0 x1 x2
    rcases hq with rfl | ⟨hq0, hq1⟩
    · go_wp2
      go_ret
      exact ⟨⟨-1, rfl, Or.inl rfl⟩, HB3.out⟩
    · have hq2 : ¬ q < 0 := by omega
      have HQ := Lib.hid hq1
      clear hq1
      go_wp2
      go_ret
      exact ⟨⟨q, rfl, Or.inr ⟨hq0, by have := HQ.out; have := HR.out; unfold dsz; omega⟩⟩, HB3.out⟩

/-- The disk of marks from k on. -/
def dmarks (k n0 n1 nl : Nat) : DiskM := ⟨marks k n0, marks (k + n0) n1, lmarks (k + n0 + n1) nl⟩
def DTurns (v0 v1 vl : Value) (b : Nat) : Prop := v0.ownBlock = some b ∨ v1.ownBlock = some b ∨ vl.ownBlock = some b
def MarkedDisk (k : Nat) (v0 v1 vl : Value) (base n0 n1 nl : Nat) (w : World) (e : Ending) (w' : World) : Prop :=
  e = .returned (.int .i64 ((k + n0 + n1 + 3 * nl : Nat) : Int)) ∧ DiskOwn w' base v0 v1 vl (dmarks k n0 n1 nl) ∧ Turned (DTurns v0 v1 vl) w w'

set_option maxHeartbeats 400000 in
theorem markDisk_any (v0 v1 vl : Value) (d : DiskM) (k base : Nat) (w : World) (h : DiskOwn w base v0 v1 vl d) (hs : DiskShort d) (hk0 : 1 ≤ k) (hk1 : k ≤ 80000000) :
    Calls Tryz.prog 36 #[.agg #[v0, v1, vl], .int .i64 (k : Int)] w (MarkedDisk k v0 v1 vl base d.s0.length d.s1.length d.late.length w) := by
  have HA := Lib.hid h
  have HS := Lib.hid hs
  have hn0 := hs.n0
  have hn1 := hs.n1
  have hnl := hs.nl
  obtain ⟨n0, H0⟩ : ∃ n, Hid (d.s0.length = n) := ⟨_, Lib.hid rfl⟩
  obtain ⟨n1, H1⟩ : ∃ n, Hid (d.s1.length = n) := ⟨_, Lib.hid rfl⟩
  obtain ⟨nl, HL⟩ : ∃ n, Hid (d.late.length = n) := ⟨_, Lib.hid rfl⟩
  rw [H0.out] at hn0 ⊢
  rw [H1.out] at hn1 ⊢
  rw [HL.out] at hnl ⊢
  clear h hs
  go_enter Tryz.func36, Tryz.ntmps36
  go_wp2_with fail
  obtain ⟨hA, hsz, hB⟩ := box1 w #[v0, v1, vl] 39
  have HA1 := Lib.hid (HA.out.below hB)
  refine (markStringSA2_any v0 v1 n0 n1 k base _ _ _ (H0.out ▸ HA1.out.o0) (H1.out ▸ HA1.out.o1) HA.out.p01 hn0 hn1 hk0 (by omega)).mono ?_
  rintro e w2 ⟨rfl, ho0, ho1, ht⟩
  have HX := Lib.hid (hA.turned ht (fun e => e.elim (fun e => by have := (HA.out.o0.lt _ e).2; omega) (fun e => by have := (HA.out.o1.lt _ e).2; omega)))
  have HT := Lib.hid ((turned_of_below hB : Turned (DTurns v0 v1 vl) _ _).trans (ht.mono (fun b _ e => e.elim Or.inl (fun e => Or.inr (Or.inl e)))))
  have HO0 := Lib.hid ho0
  have HO1 := Lib.hid ho1
  have HOL := Lib.hid (show w2.ownsRow base 81 3 vl nl (lcs d.late) from HL.out ▸ own_kept HA1.out.ol (w' := w2) (fun b e => ht.block b (HA1.out.ol.lt b e).2 (fun e' => e'.elim (fun e' => HA.out.p0l b e' e) (fun e' => HA.out.p1l b e' e))))
  clear hA hsz hB ho0 ho1 ht HA1
  obtain ⟨x0, x1, x2⟩ := HX.out.three
  obtain ⟨kk, HK⟩ : ∃ kk, Hid (k + n0 + n1 = kk) := ⟨_, Lib.hid rfl⟩
  have hkk0 : 1 ≤ kk := by have := HK.out; omega
  have hkk1 : kk ≤ 100000000 := by have := HK.out; omega
  rw [HK.out]
  go_wp2_with fail
  refine (markDiskLateS_any vl nl kk base _ _ HOL.out hnl hkk0 hkk1).mono ?_
  rintro e w3 ⟨rfl, hol, ht⟩
  have HT3 := Lib.hid (HT.out.trans (ht.mono (fun b _ e => Or.inr (Or.inr e))))
  have HO0' := Lib.hid (own_kept HO0.out (w' := w3) (fun b e => ht.block b (HO0.out.lt b e).2 (fun e' => HA.out.p0l b e e')))
  have HO1' := Lib.hid (own_kept HO1.out (w' := w3) (fun b e => ht.block b (HO1.out.lt b e).2 (fun e' => HA.out.p1l b e e')))
  have HOL' := Lib.hid hol
  clear hol ht HT HO0 HO1 HOL HX x0 x1 x2
  go_wp2
  go_ret
  refine ⟨ret_int (by rw [HK.out]; omega), ⟨?_, ?_, ?_, HA.out.p01, HA.out.p0l, HA.out.p1l⟩, HT3.out⟩
  · simpa [dmarks, marks_length] using HO0'.out
  · simpa [dmarks, marks_length] using HO1'.out
  · simpa [dmarks, lmarks_length, HK.out] using HOL'.out

set_option maxHeartbeats 400000 in
theorem heldDisk_any (v0 v1 vl : Value) (n0 n1 nl k : Nat) (w : World) (h : DiskR w v0 v1 vl (dmarks k n0 n1 nl)) (hn0 : n0 ≤ 1048576) (hn1 : n1 ≤ 1048576) (hnl : nl ≤ 1048576) (hk0 : 1 ≤ k) (hk1 : k ≤ 80000000) :
    Calls Tryz.prog 38 #[.agg #[v0, v1, vl], .int .i64 (k : Int)] w (HeldPost ((k + n0 + n1 + 3 * nl : Nat) : Int) w) := by
  have HA := Lib.hid h
  clear h
  go_enter Tryz.func38, Tryz.ntmps38
  go_wp2_with fail
  obtain ⟨hA, hsz, hB⟩ := box1 w #[v0, v1, vl] 39
  have HA1 := Lib.hid (HA.out.below hB)
  refine (heldStringSA2_any v0 v1 n0 n1 k _ (by simpa [dmarks, marks_length] using HA1.out.r0) (by simpa [dmarks, marks_length] using HA1.out.r1) HA1.out.l0 HA1.out.l1 hn0 hn1 hk0 (by omega)).mono ?_
  rintro e w2 ⟨rfl, hb⟩
  have HX := Lib.hid (hA.below hb (by omega))
  have HB := Lib.hid (hB.trans (hb.mono (by omega)))
  have HA2 := Lib.hid (HA1.out.below hb)
  clear hA hsz hB hb HA1
  obtain ⟨x0, x1, x2⟩ := HX.out.three
  obtain ⟨kk, HK⟩ : ∃ kk, Hid (k + n0 + n1 = kk) := ⟨_, Lib.hid rfl⟩
  have hkk0 : 1 ≤ kk := by have := HK.out; omega
  have hkk1 : kk ≤ 100000000 := by have := HK.out; omega
  have HSL := Lib.hid (show Sl w2 3 vl nl (lcs (lmarks kk nl)) from by rw [← HK.out]; simpa [dmarks, lmarks_length] using HA2.out.rl)
  rw [HK.out]
  have hnn : ¬ (kk : Int) < 0 := by omega
  go_wp2_with fail
  refine (heldDiskLateS_any vl nl kk _ HSL.out HA2.out.ll hnl hkk0 hkk1).mono ?_
  rintro e w3 ⟨rfl, hb⟩
  have HB3 := Lib.hid (HB.out.trans (hb.mono HB.out.size))
  clear hb HB HX HA2 HSL x0 x1 x2
  have hnm : ¬ ((kk + 3 * nl : Nat) : Int) < 0 := by omega
  go_wp2
  go_ret
  exact ⟨ret_int (by rw [HK.out]; omega), HB3.out⟩
end Go.Proofs.YtobjgdnmlibofaaGreat
