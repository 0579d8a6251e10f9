/-
  At every two stores impl.PoolSame answers as its model and writes into no argument: laws.FnExactPoolSame returns true; no condition.
-/
import Derived.Test.YtobjgdnmlibofaaRows
import Derived.Test.YtobjgdnmlibofaaStore
import Derived.Test.YtobjgdnmlibofaaLPoolSame
import Derived.Test.YtobjgdnmlibofaaFrame
import Derived.WalkKit
import Derived.ProofKit
import Derived.OpenShut
set_option maxRecDepth 100000
namespace Go.Proofs.Ytobjgdnmlibofaa
open Go.ChangeShapes Go.WideShapes Go.ChangeAt Go.RowKit Go.Proofs.Palim

namespace fnExactPoolSame
theorem own : ownKnob Try.prog.godebug = none := by kernel_rfl
theorem laidOut : laidOutB Try.prog = true := by kernel_rfl
theorem lifted (os : Os) (started : os.Started) (H : Type) (enc : TypeId × Value → H) :
    ReturnsInHanded {} Try.checked os 3 .any (Rows.fnExactPoolSameSpec.pre6 enc Try.prog Try.f3 Rows.fnExactPoolSameRow.domain false) (Rows.fnExactPoolSameSpec.post enc Try.prog Try.f3 false true false false) := by
  refine returnsInHanded_of_change (C := Try.checked) own started (by kernel_rfl) Try.func3
    (ChangeSpec.witness6 (enc := enc) (C := Try.checked) false ⟨#[], #[.agg #[.slice none 0 0, .slice none 0 0, .slice none 0 0, .int .i64 0, .slice none 0 0, .slice none 0 0, .slice none 0 0, .bool false, .slice none 0 0, .int .i64 0, .bool false], .agg #[.slice none 0 0, .slice none 0 0, .slice none 0 0, .int .i64 0, .slice none 0 0, .slice none 0 0, .slice none 0 0, .bool false, .slice none 0 0, .int .i64 0, .bool false]], []⟩ 8 (by kernel_rfl) (by kernel_rfl) (by kernel_rfl) (by kernel_rfl)) ?_
  intro W base args ds gs before hval0 hW hcnd _
  have hval : ∀ (j : Nat) t v, Try.f3.params[j]? = some t → args[j]? = some v → Value.okWide Try.prog W .any base t v := hval0
  have hW' := hW
  obtain ⟨p, q, hA0, hV, rfl, hfz, hnd⟩ := hW
  have hA : DataW.TrodAll enc Try.prog W 0 (fun _ => true) true Try.f3.params.toList args.toList ds p := hA0
  rw [Try.params3] at hA hval
  obtain ⟨x0, vs0, d0, ds0, p0, q0, hargs, rfl, rfl, h0, r0⟩ := trodAll_cons hA
  obtain ⟨x1, vs1, d1, ds1, p1, q1, rfl, rfl, rfl, h1, r1⟩ := trodAll_cons r0
  obtain ⟨rfl, rfl, rfl⟩ := trodAll_nil r1
  obtain rfl : args = #[x0, x1] := by cases args; simp_all
  obtain ⟨rfl, rfl⟩ := trodVars_none hV
  obtain ⟨v, p, rfl, hd, hz⟩ := pool_of (hval 0 34 x0 rfl rfl) h0
  obtain ⟨u, q, rfl, hk, kz⟩ := pool_of (hval 1 34 x1 rfl rfl) h1
  clear hA0 hval0
  refine (lawPoolSame v u p q W hd hk hz kz).mono fun e W' ⟨he, hb⟩ => ?_
  subst he
  refine ⟨_, rfl, law_post laidOut ?_ ?_ (by kernel_rfl) Try.underlying4 hW' rfl hb⟩
  · intro t ht
    rw [Try.params3] at ht
    obtain rfl : t = 34 := by simpa using ht
    exact ⟨by kernel_rfl, by decide +kernel⟩
  · intro n hn
    simp [Rows.fnExactPoolSameSpec] at hn

theorem over : Rows.fnExactPoolSameRow.holds Try.pinned (OpenSpec.ofChange Rows.fnExactPoolSameSpec) :=
  OpenClaim.holds_of_wide 3 Try.f3 rfl rfl rfl rfl rfl rfl rfl ⟨rfl, rfl, rfl, rfl, rfl⟩ rfl rfl rfl rfl rfl (by kernel_rfl) Try.func3 (by kernel_rfl)
    (of_decide_eq_true (by kernel_rfl)) (by unfold Func.isWrapper; first | (rw [if_pos (by decide +kernel)]; kernel_rfl) | (rw [if_neg (by decide +kernel)]; exact ⟨rfl, rfl⟩))
    (fun os started H enc _ => lifted os started H enc)
end fnExactPoolSame
theorem fnExactPoolSame_holds : Rows.FnExactPoolSameSaid := fnExactPoolSame.over
#print axioms fnExactPoolSame_holds
end Go.Proofs.Ytobjgdnmlibofaa
