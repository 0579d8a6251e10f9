/-
  A pointer at a text: BlkTo, spec's and impl's.
-/
import Derived.Test.YtfacbjldpenpjaaDoorPtr
import Derived.Test.YtfacbjldpenpjaaDoorSumWalk
import Derived.Test.YtfacbjldpenpjaaDoorDiskLaw
set_option maxRecDepth 100000
namespace Go.Proofs.YtfacbjldpenpjaaDoor
open Go.ChangeShapes Go.WideShapes Go.ChangeAt Go.RowKit Go.Proofs.Palim

def noPtr : PtrM := ⟨0, 0, 0⟩
/-- The pointer at a text. -/
def toM (at_ : Int) (text : ByteArray) (birth : Int) : PtrM := if PtrOkM ⟨at_, sumOf text, birth⟩ then ⟨at_, sumOf text, birth⟩ else noPtr

theorem ret_p {p q : PtrM} (h : p = q) : Ending.returned (pv p) = Ending.returned (pv q) := by rw [h]

set_option maxHeartbeats 400000 in
theorem implBlkTo_any (at_ : Int) (text : ByteArray) (birth : Int) (w : World) (ht : text.size ≤ maxLen) :
    Calls Tryd.prog 13 #[.int .i64 at_, .string text, .int .i64 birth] w fun e w' => e = .returned (pv (toM at_ text birth)) ∧ Below w.heap.size w w' := by
  have hnot : ∀ (x : Bool) (w : World), (Op.unary .not (.bool x)).run Tryd.prog w = .ok (.bool (!x)) w := fun _ _ => rfl
  obtain ⟨s, HS⟩ : ∃ s, Hid (sumOf text = s) := ⟨_, Lib.hid rfl⟩
  go_enter Tryd.func13, Tryd.ntmps13
  go_wp2_with fail
  refine (implSumOf_any text _ ht).mono ?_
  rintro e w1 ⟨rfl, rfl⟩
  rw [HS.out]
  obtain ⟨hA, hR, hsz, hB⟩ := box2 w #[.int .i64 0, .int .i64 0, .int .i64 0] #[.int .i64 at_, .int .i64 s, .int .i64 birth] 35 35
  have XA := Lib.hid hA
  have XR := Lib.hid hR
  have B0 := Lib.hid hB
  clear hA hR hB
  go_wp2_with fail
  by_cases hok : PtrOkM ⟨at_, s, birth⟩
  · have HE := Lib.hid (show toM at_ text birth = ⟨at_, s, birth⟩ from by unfold toM; rw [HS.out, if_pos hok])
    refine (implPtrOk_is ⟨at_, s, birth⟩ _ true (decide_eq_true hok)).mono ?_
    rintro e w2 ⟨rfl, hb⟩
    have XA2 := Lib.hid (XA.out.below hb XA.out.lt)
    have XR2 := Lib.hid (XR.out.below hb XR.out.lt)
    have B2 := Lib.hid (B0.out.trans (hb.mono B0.out.size))
    clear hb XA XR B0 hok
    obtain ⟨x0, x1, x2⟩ := XA2.out.three
    obtain ⟨y0, y1, y2⟩ := XR2.out.three
    have f0 := XA2.out.open_ 0
    have f1 := XA2.out.open_ 1
    have f2 := XA2.out.open_ 2
    go_wp2
    have q1 := XA2.out.set 0 (.int .i64 at_)
    have q2 := q1.set 1 (.int .i64 s)
    have q3 := q2.set 2 (.int .i64 birth)
    refine bodyPost_ret (v := pv ⟨at_, s, birth⟩) (by simp [results, Tryd.results13, go_sem, q1.cell 0 rfl, q2.cell 1 rfl, q3.cell 2 rfl]) rfl ⟨ret_p HE.out.symm, ?_⟩
    exact ((B2.out.setCell (by simp) _).setCell (by simp) _).setCell (by simp) _
  · have HE := Lib.hid (show toM at_ text birth = noPtr from by unfold toM; rw [HS.out, if_neg hok])
    refine (implPtrOk_is ⟨at_, s, birth⟩ _ false (decide_eq_false hok)).mono ?_
    rintro e w2 ⟨rfl, hb⟩
    have XA2 := Lib.hid (XA.out.below hb XA.out.lt)
    have B2 := Lib.hid (B0.out.trans (hb.mono B0.out.size))
    clear hb XA XR B0 hok
    obtain ⟨x0, x1, x2⟩ := XA2.out.three
    have f0 := XA2.out.open_ 0
    have f1 := XA2.out.open_ 1
    have f2 := XA2.out.open_ 2
    go_wp2
    have q1 := XA2.out.set 0 (.int .i64 0)
    have q2 := q1.set 1 (.int .i64 0)
    have q3 := q2.set 2 (.int .i64 0)
    refine bodyPost_ret (v := pv noPtr) (by simp [results, Tryd.results13, go_sem, noPtr, q1.cell 0 rfl, q2.cell 1 rfl, q3.cell 2 rfl]) rfl ⟨ret_p HE.out.symm, ?_⟩
    exact ((B2.out.setCell (by simp) _).setCell (by simp) _).setCell (by simp) _

end Go.Proofs.YtfacbjldpenpjaaDoor
