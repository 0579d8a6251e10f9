/-
  The law on CoreUberRead, walked.
-/
import Derived.Test.YtfpplbipnbcpaaaDoorIUberR
set_option maxRecDepth 100000
namespace Go.Proofs.YtfpplbipnbcpaaaDoor
open Go.ChangeShapes Go.WideShapes Go.ChangeAt Go.RowKit Go.Proofs.Palim

set_option maxHeartbeats 1000000 in
theorem lawCoreUberRead (t : ByteArray) (w : World) (hm : t.size ≤ maxLen) (hv : LibVars w) :
    Calls Tryd.prog 5 #[.string t] w fun e w' => e = .returned (.bool true) ∧ Below w.heap.size w w' := by
  have hnot : ∀ (x : Bool) (w : World), (Op.unary .not (.bool x)).run Tryd.prog w = .ok (.bool (!x)) w := fun _ _ => rfl
  unfold maxLen at hm
  by_cases hbig : t.size > 1048576
  · have hbi : (t.size : Int) > 1048576 := by omega
    go_enter Tryd.func5, Tryd.ntmps5
    go_wp2
    go_ret
    exact ⟨rfl, Below.refl _ _⟩
  have hbi : ¬ ((t.size : Int) > 1048576) := by omega
  go_enter Tryd.func5, Tryd.ntmps5
  go_wp2_with fail
  refine (specUberRead_any t _ (by omega)).mono ?_
  rintro e w1 ⟨hb, h⟩
  obtain ⟨n, p, b, rfl, HW⟩ : ∃ n p b, e = .returned (.tuple #[.int .i64 n, pv p, .bool b]) ∧ Hid ((b = true ∧ Spells t n p) ∨ (b = false ∧ n = 0 ∧ p = noPtr ∧ ∀ n p, ¬ Spells t n p)) := by
    rcases h with ⟨n, p, hs, rfl⟩ | ⟨hn, rfl⟩
    · exact ⟨n, p, true, rfl, Lib.hid (Or.inl ⟨rfl, hs⟩)⟩
    · exact ⟨0, noPtr, false, rfl, Lib.hid (Or.inr ⟨rfl, rfl, rfl, hn⟩)⟩
  have Y1 := Lib.hid (box_new w1 #[.int .i64 p.at_, .int .i64 p.sum, .int .i64 p.birth] 29)
  have B1 := Lib.hid (hb.alloc hb.size (.cells #[.int .i64 p.at_, .int .i64 p.sum, .int .i64 p.birth] 29))
  have HV1 := Lib.hid (hv.below B1.out)
  clear hb h hv
  go_wp2_with fail
  refine (implUberRead_any t _ (by omega) HV1.out).mono ?_
  rintro e w2 ⟨hb, h⟩
  obtain ⟨m, q, c, rfl, HG⟩ : ∃ n p b, e = .returned (.tuple #[.int .i64 n, pv p, .bool b]) ∧ Hid ((b = true ∧ Spells t n p) ∨ (b = false ∧ n = 0 ∧ p = noPtr ∧ ∀ n p, ¬ Spells t n p)) := by
    rcases h with ⟨n, p, hs, rfl⟩ | ⟨hn, rfl⟩
    · exact ⟨n, p, true, rfl, Lib.hid (Or.inl ⟨rfl, hs⟩)⟩
    · exact ⟨0, noPtr, false, rfl, Lib.hid (Or.inr ⟨rfl, rfl, rfl, hn⟩)⟩
  obtain ⟨e1, e2, e3⟩ : m = n ∧ q = p ∧ c = b := by
    rcases HW.out with ⟨h1, h2⟩ | ⟨h1, h2, h3, h4⟩ <;> rcases HG.out with ⟨k1, k2⟩ | ⟨k1, k2, k3, k4⟩
    · obtain ⟨a1, a2⟩ := spells_one k2 h2
      exact ⟨a1, a2, k1.trans h1.symm⟩
    · exact absurd h2 (k4 _ _)
    · exact absurd k2 (h4 _ _)
    · exact ⟨k2.trans h2.symm, k3.trans h3.symm, k1.trans h1.symm⟩
  subst e1 e2 e3
  have Y2 := Lib.hid (Y1.out.below hb Y1.out.lt)
  have B2 := Lib.hid (B1.out.trans (hb.mono B1.out.size))
  have hlt : w1.heap.size < w2.heap.size := Y2.out.lt
  clear hb h Y1 B1 HV1 HW HG
  have Y3 := Lib.hid (Y2.out.alloc (.cells #[.int .i64 q.at_, .int .i64 q.sum, .int .i64 q.birth] 29))
  have Z3 := Lib.hid (box_new w2 #[.int .i64 q.at_, .int .i64 q.sum, .int .i64 q.birth] 29)
  have B3 := Lib.hid (B2.out.alloc B2.out.size (.cells #[.int .i64 q.at_, .int .i64 q.sum, .int .i64 q.birth] 29))
  obtain ⟨y0, y1, y2⟩ := Y3.out.three
  obtain ⟨z0, z1, z2⟩ := Z3.out.three
  have hbb : (c != c) = false := by simp
  go_wp2_with fail
  refine (eqPtr_same q _).mono ?_
  rintro e w3 ⟨rfl, hb⟩
  have B4 := Lib.hid (B3.out.trans (hb.mono B3.out.size))
  clear hb B3 y0 y1 y2 z0 z1 z2 Y3 Z3 Y2 B2
  go_wp2
  go_ret
  exact ⟨rfl, B4.out⟩
end Go.Proofs.YtfpplbipnbcpaaaDoor
