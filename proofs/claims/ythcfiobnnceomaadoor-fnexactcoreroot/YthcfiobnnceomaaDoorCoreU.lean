/-
  The ring's word: corePoints, CoreUber of both sides.
-/
import Derived.Test.YthcfiobnnceomaaDoorPtrT
import Derived.Test.YthcfiobnnceomaaDoorCoreW
import Derived.Test.YthcfiobnnceomaaDoorSeal
import Derived.Deep.RegionHeld3
set_option maxRecDepth 100000
namespace Go.Proofs.YthcfiobnnceomaaDoor
open Go.ChangeShapes Go.WideShapes Go.ChangeAt Go.RowKit Go.Proofs.Palim

theorem neNull (p : PtrM) (r : Bool) (hr : decide (¬ NullM p) = r) (w : World) : (binOp .neq 48 (.agg #[.int .i64 p.at_, .int .i64 p.sum, .int .i64 p.birth]) (.agg #[.int .i64 0, .int .i64 0, .int .i64 0])).run Tryd.prog w = .ok (.bool r) w := by
  subst hr
  obtain ⟨a, s, b⟩ := p
  rw [run_neq_struct]
  by_cases h3 : a = 0
  · by_cases h4 : s = 0
    · by_cases h5 : b = 0
      · have : decide (¬ NullM ⟨a, s, b⟩) = false := by simp [NullM, h3, h4, h5]
        rw [this]
        go_simp
      · have : decide (¬ NullM ⟨a, s, b⟩) = true := by simp [NullM, h5]
        rw [this]
        go_simp
    · have : decide (¬ NullM ⟨a, s, b⟩) = true := by simp [NullM, h4]
      rw [this]
      go_simp
  · have : decide (¬ NullM ⟨a, s, b⟩) = true := by simp [NullM, h3]
    rw [this]
    go_simp
theorem good_iff (p : PtrM) : GoodM p ↔ PtrOkM p ∧ ¬ NullM p := by
  unfold PtrOkM GoodM NullM
  constructor
  · intro h; exact ⟨Or.inr h, by omega⟩
  · rintro ⟨h1, h2⟩; exact h1.resolve_left h2

set_option maxHeartbeats 400000 in
theorem corePoints_any (p : PtrM) (w : World) :
    Calls Tryd.prog 32 #[pv p] w fun e w' => e = .returned (.bool (decide (GoodM p))) ∧ Below w.heap.size w w' := by
  obtain ⟨r, HR⟩ : ∃ r, Hid (decide (GoodM p) = r) := ⟨_, Lib.hid rfl⟩
  rw [HR.out]
  obtain ⟨hX, hsz, hB⟩ := box1 w #[.int .i64 p.at_, .int .i64 p.sum, .int .i64 p.birth] 48
  have XP := Lib.hid hX
  have B0 := Lib.hid hB
  clear hX hB
  by_cases hok : PtrOkM p
  · have HR2 := Lib.hid (show decide (¬ NullM p) = r from by rw [← HR.out]; exact decide_eq_decide.2 ⟨fun h => (good_iff p).2 ⟨hok, h⟩, fun h => ((good_iff p).1 h).2⟩)
    have hq := neNull p r HR2.out
    go_enter Tryd.func32, Tryd.ntmps32
    go_wp2_with fail
    refine (implPtrOk_is p _ true (decide_eq_true hok)).mono ?_
    rintro e w1 ⟨rfl, hb⟩
    have XP1 := Lib.hid (XP.out.below hb XP.out.lt)
    have B1 := Lib.hid (B0.out.trans (hb.mono B0.out.size))
    clear hb XP B0 hsz hok
    obtain ⟨x0, x1, x2⟩ := XP1.out.three
    go_wp2
    go_ret
    exact ⟨rfl, B1.out⟩
  · have HF := Lib.hid (show false = r from by rw [← HR.out]; exact (decide_eq_false (fun h => hok ((good_iff p).1 h).1)).symm)
    go_enter Tryd.func32, Tryd.ntmps32
    go_wp2_with fail
    refine (implPtrOk_is p _ false (decide_eq_false hok)).mono ?_
    rintro e w1 ⟨rfl, hb⟩
    have B1 := Lib.hid (B0.out.trans (hb.mono B0.out.size))
    go_wp2
    go_ret
    exact ⟨ret_b HF.out, B1.out⟩
theorem corePoints_is (p : PtrM) (w : World) (r : Bool) (hr : decide (GoodM p) = r) :
    Calls Tryd.prog 32 #[pv p] w fun e w' => e = .returned (.bool r) ∧ Below w.heap.size w w' := hr ▸ corePoints_any p w
end Go.Proofs.YthcfiobnnceomaaDoor
