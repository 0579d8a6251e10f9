/-
  At every list of entries impl.DdtOk answers as its model and writes into no argument: laws.FnExactDdtOk returns true; no condition.
-/
import Derived.Test.YtkbdiinmicedfaaRows
import Derived.Test.YtkbdiinmicedfaaLDdtOk
import Derived.Test.YtkbdiinmicedfaaDdtArg
import Derived.Test.YtkbdiinmicedfaaFrame
import Derived.WalkKit
import Derived.ProofKit
import Derived.OpenShut
set_option maxRecDepth 100000
namespace Go.Proofs.Ytkbdiinmicedfaa
open Go.ChangeShapes Go.WideShapes Go.ChangeAt Go.RowKit Go.Proofs.Palim

namespace fnExactDdtOk
theorem own : ownKnob Try.prog.godebug = none := by kernel_rfl
theorem laidOut : laidOutB Try.prog = true := by kernel_rfl
theorem lifted (os : Os) (started : os.Started) (H : Type) (enc : TypeId × Value → H) :
    ReturnsInHanded {} Try.checked os 5 .any (Rows.fnExactDdtOkSpec.pre6 enc Try.prog Try.f5 Rows.fnExactDdtOkRow.domain false) (Rows.fnExactDdtOkSpec.post enc Try.prog Try.f5 false true false false) := by
  refine returnsInHanded_of_change (C := Try.checked) own started (by kernel_rfl) Try.func5
    (ChangeSpec.witness6 (enc := enc) (C := Try.checked) false ⟨#[], #[.slice none 0 0], []⟩ 8 (by kernel_rfl) (by kernel_rfl) (by kernel_rfl) (by kernel_rfl)) ?_
  intro W base args ds gs before hval0 hW hcnd _
  have hval : ∀ (j : Nat) t v, Try.f5.params[j]? = some t → args[j]? = some v → Value.okWide Try.prog W .any base t v := hval0
  have hW' := hW
  obtain ⟨p, q, hA0, hV, rfl, hfz, hnd⟩ := hW
  have hA : DataW.TrodAll enc Try.prog W 0 (fun _ => true) true Try.f5.params.toList args.toList ds p := hA0
  rw [Try.params5] at hA hval
  obtain ⟨x0, vs0, d0, ds0, p0, q0, hargs, rfl, rfl, h0, r0⟩ := trodAll_cons hA
  obtain ⟨rfl, rfl, rfl⟩ := trodAll_nil r0
  obtain rfl : args = #[x0] := by cases args; simp_all
  obtain ⟨rfl, rfl⟩ := trodVars_none hV
  obtain ⟨ls, hls, hlow, hfit⟩ := ents_arg (hval 0 44 x0 rfl rfl) h0
  clear hA0 hval0
  refine (lawDdtOk x0 ls W hls hlow).mono fun e W' ⟨he, hb⟩ => ?_
  subst he
  refine ⟨_, rfl, law_post laidOut ?_ ?_ (by kernel_rfl) Try.underlying4 hW' rfl hb⟩
  · intro t ht
    rw [Try.params5] at ht
    obtain rfl : t = 44 := by simpa using ht
    exact ⟨by kernel_rfl, by decide +kernel⟩
  · intro n hn
    simp [Rows.fnExactDdtOkSpec] at hn

theorem over : Rows.fnExactDdtOkRow.holds Try.pinned (OpenSpec.ofChange Rows.fnExactDdtOkSpec) :=
  OpenClaim.holds_of_wide 5 Try.f5 rfl rfl rfl rfl rfl rfl rfl ⟨rfl, rfl, rfl, rfl, rfl⟩ rfl rfl rfl rfl rfl (by kernel_rfl) Try.func5 (by kernel_rfl)
    (of_decide_eq_true (by kernel_rfl)) (by unfold Func.isWrapper; first | (rw [if_pos (by decide +kernel)]; kernel_rfl) | (rw [if_neg (by decide +kernel)]; exact ⟨rfl, rfl⟩))
    (fun os started H enc _ => lifted os started H enc)
end fnExactDdtOk
theorem fnExactDdtOk_holds : Rows.FnExactDdtOkSaid := fnExactDdtOk.over
#print axioms fnExactDdtOk_holds
end Go.Proofs.Ytkbdiinmicedfaa
