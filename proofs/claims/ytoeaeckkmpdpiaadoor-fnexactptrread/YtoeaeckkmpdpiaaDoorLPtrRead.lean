/-
  The law on PtrRead, walked.
-/
import Derived.Test.YtoeaeckkmpdpiaaDoorPtrRdI
set_option maxRecDepth 100000
namespace Go.Proofs.YtoeaeckkmpdpiaaDoor
open Go.ChangeShapes Go.WideShapes Go.ChangeAt Go.RowKit Go.Proofs.Palim

set_option maxHeartbeats 1000000 in
theorem lawPtrRead (t : ByteArray) (w : World) (ht : t.size ≤ maxLen) (hv : LibVars w) :
    Calls Tryd.prog 3 #[.string t] w fun e w' => e = .returned (.bool true) ∧ Below w.heap.size w w' := by
  have hnot : ∀ (x : Bool) (w : World), (Op.unary .not (.bool x)).run Tryd.prog w = .ok (.bool (!x)) w := fun _ _ => rfl
  by_cases hlong : 1048576 < t.size
  · unfold maxLen at ht
    go_enter Tryd.func3, Tryd.ntmps3
    go_wp2
    go_ret
    exact ⟨rfl, Below.refl _ _⟩
  have HV := Lib.hid hv
  clear hv
  go_enter Tryd.func3, Tryd.ntmps3
  go_wp2_with fail
  refine (specPtrRead_any t _ (by omega)).mono ?_
  rintro e w1 ⟨hb, hcase⟩
  obtain ⟨r, ok, rfl, HR⟩ : ∃ (r : PtrM) (ok : Bool), e = .returned (.tuple #[pv r, .bool ok]) ∧ Hid ((ok = true → readM t = some r) ∧ (ok = false → readM t = none ∧ r = noPtr)) := by
    rcases hcase with ⟨p, h1, rfl⟩ | ⟨h1, rfl⟩
    · exact ⟨p, true, rfl, Lib.hid ⟨fun _ => h1, fun h => (by cases h)⟩⟩
    · exact ⟨noPtr, false, rfl, Lib.hid ⟨fun h => (by cases h), fun _ => ⟨h1, rfl⟩⟩⟩
  clear hcase
  have hn := Below.new (w := w1) (.cells #[.int .i64 r.at_, .int .i64 r.sum, .int .i64 r.birth] 23)
  have X1 := Lib.hid (box_new w1 #[.int .i64 r.at_, .int .i64 r.sum, .int .i64 r.birth] 23)
  have B1 := Lib.hid (hb.trans (hn.mono hb.size))
  clear hb hn
  go_wp2_with fail
  refine (implPtrRead_any t _ (by omega) (HV.out.below B1.out)).mono ?_
  rintro e w2 ⟨hb, hcase⟩
  obtain rfl : e = .returned (.tuple #[pv r, .bool ok]) := by
    rcases hcase with ⟨p, h1, rfl⟩ | ⟨h1, rfl⟩
    · cases ok
      · have := (HR.out.2 rfl).1; rw [h1] at this; cases this
      · have := HR.out.1 rfl; rw [h1] at this; obtain rfl := Option.some.inj this; rfl
    · cases ok
      · have := (HR.out.2 rfl).2; subst this; rfl
      · have := HR.out.1 rfl; rw [h1] at this; cases this
  clear hcase HR
  have hn := Below.new (w := w2) (.cells #[.int .i64 r.at_, .int .i64 r.sum, .int .i64 r.birth] 23)
  have hl1 := (X1.out.below hb X1.out.lt).lt
  have X2 := Lib.hid ((X1.out.below hb X1.out.lt).alloc (.cells #[.int .i64 r.at_, .int .i64 r.sum, .int .i64 r.birth] 23))
  have B2 := Lib.hid ((B1.out.trans (hb.mono B1.out.size)).trans (hn.mono (Nat.le_trans B1.out.size hb.size)))
  clear hb hn X1 B1
  obtain ⟨x0, x1, x2⟩ := X2.out.three
  go_wp2_with fail
  refine (eqPtr_same r _).mono ?_
  rintro e w3 ⟨rfl, hb⟩
  have B3 := Lib.hid (B2.out.trans (hb.mono B2.out.size))
  clear hb B2 X2 x0 x1 x2
  cases ok
  all_goals
    go_wp2
    go_ret
    exact ⟨rfl, B3.out⟩
end Go.Proofs.YtoeaeckkmpdpiaaDoor
