/-
  Disks compared, sized, marked, asked for marks.
-/
import Derived.Test.YtoeaeckkmpdpiaaDoorDiskV
namespace Go.Proofs.YtoeaeckkmpdpiaaDoor
open Go.ChangeShapes Go.WideShapes Go.ChangeAt Go.RowKit Go.Proofs.Palim

set_option maxHeartbeats 400000 in
theorem eqDisk_same (a0 a1 al b0 b1 bl : Value) (d : DiskM) (w : World) (ha : DiskR w a0 a1 al d) (hb : DiskR w b0 b1 bl d) (hs : DiskShort d) :
    Calls Tryd.prog 17 #[.agg #[a0, a1, al], .agg #[b0, b1, bl]] w fun e w' => e = .returned (.bool true) ∧ Below w.heap.size w w' := by
  have hnot : ∀ (x : Bool) (w : World), (Op.unary .not (.bool x)).run Tryd.prog w = .ok (.bool (!x)) w := fun _ _ => rfl
  have HA := Lib.hid ha
  have HC := Lib.hid hb
  have HS := Lib.hid hs
  clear ha hb hs
  go_enter Tryd.func17, Tryd.ntmps17
  go_wp2_with fail
  obtain ⟨hA, hC, hsz, hB⟩ := box2 w #[a0, a1, al] #[b0, b1, bl] 39 39
  have HA1 := Lib.hid (HA.out.below hB)
  have HC1 := Lib.hid (HC.out.below hB)
  refine (eqStringSA2_same a0 a1 b0 b1 d.s0 d.s1 _ HA1.out.r0 HA1.out.r1 HC1.out.r0 HC1.out.r1 HA1.out.l0 HA1.out.l1 HC1.out.l0 HC1.out.l1 HS.out.n0 HS.out.n1).mono ?_
  rintro e w2 ⟨rfl, hb⟩
  have HX := Lib.hid (hA.below hb (by omega))
  have HY := Lib.hid (hC.below hb (by omega))
  have HB := Lib.hid (hB.trans (hb.mono (by omega)))
  have HA2 := Lib.hid (HA1.out.below hb)
  have HC2 := Lib.hid (HC1.out.below hb)
  clear hA hC hsz hB hb HA1 HC1
  obtain ⟨x0, x1, x2⟩ := HX.out.three
  obtain ⟨y0, y1, y2⟩ := HY.out.three
  go_wp2_with fail
  refine (eqDiskLateS_same al bl d.late _ HA2.out.rl HC2.out.rl HA2.out.ll HC2.out.ll HS.out.nl).mono ?_
  rintro e w3 ⟨rfl, hb⟩
  have HB3 := Lib.hid (HB.out.trans (hb.mono HB.out.size))
  clear hb HB HX HY HA2 HC2 x0 x1 x2 y0 y1 y2
  go_wp2
  go_ret
  exact ⟨rfl, HB3.out⟩

def dsz (d : DiskM) : Nat := d.s0.length + tot d.s0 + (d.s1.length + tot d.s1) + (d.late.length + tot (d.late.map (·.text)))

set_option maxHeartbeats 400000 in
theorem szDisk_any (a0 a1 al : Value) (d : DiskM) (left : Int) (w : World) (ha : DiskR w a0 a1 al d) (hz0 : ∀ s ∈ d.s0, s.size ≤ maxLen) (hz1 : ∀ s ∈ d.s1, s.size ≤ maxLen) (hzl : ∀ x ∈ d.late, x.text.size ≤ maxLen) (hl0 : 0 ≤ left) (hl1 : left ≤ 1048576) :
    Calls Tryd.prog 11 #[.agg #[a0, a1, al], .int .i64 left] w fun e w' => (∃ r : Int, e = .returned (.int .i64 r) ∧ (r = -1 ∨ 0 ≤ r ∧ r + (dsz d : Nat) = left)) ∧ Below w.heap.size w w' := by
  have HA := Lib.hid ha
  have HZ0 := Lib.hid hz0
  have HZ1 := Lib.hid hz1
  have HZL := Lib.hid hzl
  clear ha hz0 hz1 hzl
  go_enter Tryd.func11, Tryd.ntmps11
  go_wp2_with fail
  obtain ⟨hA, hsz, hB⟩ := box1 w #[a0, a1, al] 32
  have HA1 := Lib.hid (HA.out.below hB)
  refine (szStringSA2_any a0 a1 d.s0 d.s1 left _ HA1.out.r0 HA1.out.r1 HA1.out.l0 HA1.out.l1 HZ0.out HZ1.out hl0 hl1).mono ?_
  rintro e w2 ⟨⟨r, rfl, hr⟩, hb⟩
  have HX := Lib.hid (hA.below hb (by omega))
  have HB := Lib.hid (hB.trans (hb.mono (by omega)))
  have HA2 := Lib.hid (HA1.out.below hb)
  clear hA hsz hB hb HA1
  obtain ⟨x0, x1, x2⟩ := HX.out.three
  rcases hr with rfl | ⟨hr0, hr1⟩
  · go_wp2
    go_ret
    exact ⟨⟨-1, rfl, Or.inl rfl⟩, HB.out⟩
  · have hr2 : ¬ r < 0 := by omega
    have hr3 : r ≤ 1048576 := by omega
    have HR := Lib.hid hr1
    clear hr1
    go_wp2_with fail
    refine (szDiskLateS_any al d.late r _ HA2.out.rl HA2.out.ll HZL.out hr0 hr3).mono ?_
    rintro e w3 ⟨⟨q, rfl, hq⟩, hb⟩
    have HB3 := Lib.hid (HB.out.trans (hb.mono HB.out.size))
    clear hb HB HX HA2 x0 x1 x2
    rcases hq with rfl | ⟨hq0, hq1⟩
    · go_wp2
      go_ret
      exact ⟨⟨-1, rfl, Or.inl rfl⟩, HB3.out⟩
    · have hq2 : ¬ q < 0 := by omega
      have HQ := Lib.hid hq1
      clear hq1
      go_wp2
      go_ret
      exact ⟨⟨q, rfl, Or.inr ⟨hq0, by have := HQ.out; have := HR.out; unfold dsz; omega⟩⟩, HB3.out⟩

/-- The disk of marks from k on. -/
def dmarks (k n0 n1 nl : Nat) : DiskM := ⟨marks k n0, marks (k + n0) n1, lmarks (k + n0 + n1) nl⟩
def DTurns (v0 v1 vl : Value) (b : Nat) : Prop := v0.ownBlock = some b ∨ v1.ownBlock = some b ∨ vl.ownBlock = some b
def MarkedDisk (k : Nat) (v0 v1 vl : Value) (base n0 n1 nl : Nat) (w : World) (e : Ending) (w' : World) : Prop :=
  e = .returned (.int .i64 ((k + n0 + n1 + 3 * nl : Nat) : Int)) ∧ DiskOwn w' base v0 v1 vl (dmarks k n0 n1 nl) ∧ Turned (DTurns v0 v1 vl) w w'

end Go.Proofs.YtoeaeckkmpdpiaaDoor
