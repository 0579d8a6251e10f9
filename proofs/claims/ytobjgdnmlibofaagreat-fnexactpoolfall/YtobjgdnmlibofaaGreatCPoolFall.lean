/-
  At every store and fate impl.PoolFall answers as its model, writes into no argument and owns its answer: laws.FnExactPoolFall returns true; no condition.
-/
import Derived.Test.YtobjgdnmlibofaaGreatRows
import Derived.Test.YtobjgdnmlibofaaGreatStore
import Derived.Test.YtobjgdnmlibofaaGreatLPoolFall
import Derived.Test.YtobjgdnmlibofaaGreatPoolFaC
import Derived.Test.YtobjgdnmlibofaaGreatIntArg
import Derived.Test.YtobjgdnmlibofaaGreatFrame
import Derived.WalkKit
import Derived.ProofKit
import Derived.OpenShut
set_option maxRecDepth 100000
namespace Go.Proofs.YtobjgdnmlibofaaGreat
open Go.ChangeShapes Go.WideShapes Go.ChangeAt Go.RowKit Go.Proofs.Palim

namespace fnExactPoolFall
theorem own : ownKnob Tryz.prog.godebug = none := by kernel_rfl
theorem laidOut : laidOutB Tryz.prog = true := by kernel_rfl
theorem lifted (os : Os) (started : os.Started) (H : Type) (enc : TypeId × Value → H) :
    ReturnsInHanded {} Tryz.checked os 5 .any (Rows.fnExactPoolFallSpec.pre6 enc Tryz.prog Tryz.f5 Rows.fnExactPoolFallRow.domain false) (Rows.fnExactPoolFallSpec.post enc Tryz.prog Tryz.f5 false true false false) := by
  refine returnsInHanded_of_change (C := Tryz.checked) own started (by kernel_rfl) Tryz.func5
    (ChangeSpec.witness6 (enc := enc) (C := Tryz.checked) false ⟨#[], #[.agg #[.slice none 0 0, .slice none 0 0, .slice none 0 0, .int .i64 0, .slice none 0 0, .slice none 0 0, .slice none 0 0, .bool false, .slice none 0 0, .int .i64 0, .bool false], .slice none 0 0], []⟩ 8 (by kernel_rfl) (by kernel_rfl) (by kernel_rfl) (by kernel_rfl)) ?_
  intro W base args ds gs before hval0 hW hcnd _
  have hval : ∀ (j : Nat) t v, Tryz.f5.params[j]? = some t → args[j]? = some v → Value.okWide Tryz.prog W .any base t v := hval0
  have hW' := hW
  obtain ⟨p, q, hA0, hV, rfl, hfz, hnd⟩ := hW
  have hA : DataW.TrodAll enc Tryz.prog W 0 (fun _ => true) true Tryz.f5.params.toList args.toList ds p := hA0
  rw [Tryz.params5] at hA hval
  obtain ⟨x0, vs0, d0, ds0, p0, q0, hargs, rfl, rfl, h0, r0⟩ := trodAll_cons hA
  obtain ⟨x1, vs1, d1, ds1, p1, q1, rfl, rfl, rfl, h1, r1⟩ := trodAll_cons r0
  obtain ⟨rfl, rfl, rfl⟩ := trodAll_nil r1
  obtain rfl : args = #[x0, x1] := by cases args; simp_all
  obtain ⟨rfl, rfl⟩ := trodVars_none hV
  obtain ⟨v, q, rfl, hd, hz⟩ := pool_of (hval 0 34 x0 rfl rfl) h0
  obtain ⟨fs, hf, hfl⟩ := ints_arg (hval 1 30 x1 rfl rfl) h1
  clear hA0 hval0
  refine (lawPoolFall v q (fallP q fs) x1 fs W hd hf hfl hz short_fallP (fun v vf w h hs hf hfl hfn => specPoolFall_any v q vf fs w h hs hf hfl hfn) (fun v vf w h hs hf hfl hfn => implPoolFall_any v q vf fs w h hs hf hfl hfn)).mono fun e W' ⟨he, hb⟩ => ?_
  subst he
  refine ⟨_, rfl, law_post laidOut ?_ ?_ (by kernel_rfl) Tryz.underlying4 hW' rfl hb⟩
  · intro t ht
    rw [Tryz.params5] at ht
    rcases (by simpa using ht : t = 34 ∨ t = 30) with rfl | rfl
    · exact ⟨by kernel_rfl, by decide +kernel⟩
    · exact ⟨by kernel_rfl, by decide +kernel⟩
  · intro n hn
    simp [Rows.fnExactPoolFallSpec] at hn

theorem over : Rows.fnExactPoolFallRow.holds Tryz.pinned (OpenSpec.ofChange Rows.fnExactPoolFallSpec) :=
  OpenClaim.holds_of_wide 5 Tryz.f5 rfl rfl rfl rfl rfl rfl rfl ⟨rfl, rfl, rfl, rfl, rfl⟩ rfl rfl rfl rfl rfl (by kernel_rfl) Tryz.func5 (by kernel_rfl)
    (of_decide_eq_true (by kernel_rfl)) (by unfold Func.isWrapper; first | (rw [if_pos (by decide +kernel)]; kernel_rfl) | (rw [if_neg (by decide +kernel)]; exact ⟨rfl, rfl⟩))
    (fun os started H enc _ => lifted os started H enc)
end fnExactPoolFall
theorem fnExactPoolFall_holds : Rows.FnExactPoolFallSaid := fnExactPoolFall.over
#print axioms fnExactPoolFall_holds
end Go.Proofs.YtobjgdnmlibofaaGreat
