/-
  At every core and number impl.RoomSums answers as its model and writes into no argument: laws.FnExactRoomSums returns true; no condition.
-/
import Derived.Test.YthcfiobnnceomaaRows
import Derived.Test.YthcfiobnnceomaaLRoomSums
import Derived.Test.YthcfiobnnceomaaCoreArg
import Derived.Test.YthcfiobnnceomaaRoom
import Derived.Test.YthcfiobnnceomaaFrame
import Derived.WalkKit
import Derived.ProofKit
import Derived.OpenShut
set_option maxRecDepth 100000
namespace Go.Proofs.Ythcfiobnnceomaa
open Go.ChangeShapes Go.WideShapes Go.ChangeAt Go.RowKit Go.Proofs.Palim

namespace fnExactRoomSums
theorem own : ownKnob Try.prog.godebug = none := by kernel_rfl
theorem laidOut : laidOutB Try.prog = true := by kernel_rfl
theorem lifted (os : Os) (started : os.Started) (H : Type) (enc : TypeId × Value → H) :
    ReturnsInHanded {} Try.checked os 3 .any (Rows.fnExactRoomSumsSpec.pre6 enc Try.prog Try.f3 Rows.fnExactRoomSumsRow.domain false) (Rows.fnExactRoomSumsSpec.post enc Try.prog Try.f3 false true false false) := by
  refine returnsInHanded_of_change (C := Try.checked) own started (by kernel_rfl) Try.func3
    (ChangeSpec.witness6 (enc := enc) (C := Try.checked) false ⟨#[], #[.agg #[.int .i64 0, .slice none 0 0, .slice none 0 0, .slice none 0 0, .bool false, .slice none 0 0, .int .i64 0], .int .i64 0], []⟩ 8 (by kernel_rfl) (by kernel_rfl) (by kernel_rfl) (by kernel_rfl)) ?_
  intro W base args ds gs before hval0 hW hcnd _
  have hval : ∀ (j : Nat) t v, Try.f3.params[j]? = some t → args[j]? = some v → Value.okWide Try.prog W .any base t v := hval0
  have hW' := hW
  obtain ⟨p, q, hA0, hV, rfl, hfz, hnd⟩ := hW
  have hA : DataW.TrodAll enc Try.prog W 0 (fun _ => true) true Try.f3.params.toList args.toList ds p := hA0
  rw [Try.params3] at hA hval
  obtain ⟨x0, vs0, d0, ds0, p0, q0, hargs, rfl, rfl, h0, r0⟩ := trodAll_cons hA
  obtain ⟨x1, vs1, d1, ds1, p1, q1, rfl, rfl, rfl, h1, r1⟩ := trodAll_cons r0
  obtain ⟨rfl, rfl, rfl⟩ := trodAll_nil r1
  obtain rfl : args = #[x0, x1] := by cases args; simp_all
  obtain ⟨rfl, rfl⟩ := trodVars_none hV
  obtain ⟨vs, vd, vp, vi, c, rfl, hd, hf⟩ := core_of (hval 0 27 x0 rfl rfl) h0
  obtain ⟨n, rfl, rfl, rfl, hn⟩ := open_int Try.underlying3 (hval 1 3 x1 rfl rfl) h1
  clear hA0 hval0
  refine (lawRoomSums vs vd vp vi c n W hd hf (wf_lo hn)).mono fun e W' ⟨he, hb⟩ => ?_
  subst he
  refine ⟨_, rfl, law_post laidOut ?_ ?_ (by kernel_rfl) Try.underlying4 hW' rfl hb⟩
  · intro t ht
    rw [Try.params3] at ht
    rcases (by simpa using ht : t = 27 ∨ t = 3) with rfl | rfl
    · exact ⟨by kernel_rfl, by decide +kernel⟩
    · exact ⟨by kernel_rfl, by decide +kernel⟩
  · intro n hn
    simp [Rows.fnExactRoomSumsSpec] at hn

theorem over : Rows.fnExactRoomSumsRow.holds Try.pinned (OpenSpec.ofChange Rows.fnExactRoomSumsSpec) :=
  OpenClaim.holds_of_wide 3 Try.f3 rfl rfl rfl rfl rfl rfl rfl ⟨rfl, rfl, rfl, rfl, rfl⟩ rfl rfl rfl rfl rfl (by kernel_rfl) Try.func3 (by kernel_rfl)
    (of_decide_eq_true (by kernel_rfl)) (by unfold Func.isWrapper; first | (rw [if_pos (by decide +kernel)]; kernel_rfl) | (rw [if_neg (by decide +kernel)]; exact ⟨rfl, rfl⟩))
    (fun os started H enc _ => lifted os started H enc)
end fnExactRoomSums
theorem fnExactRoomSums_holds : Rows.FnExactRoomSumsSaid := fnExactRoomSums.over
#print axioms fnExactRoomSums_holds
end Go.Proofs.Ythcfiobnnceomaa
