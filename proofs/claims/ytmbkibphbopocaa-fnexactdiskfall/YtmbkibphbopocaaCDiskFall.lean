/-
  At every disk and list of fates impl.DiskFall answers as its model, writes into no argument and owns its answer: laws.FnExactDiskFall returns true; no condition.
-/
import Derived.Test.YtmbkibphbopocaaRows
import Derived.Test.YtmbkibphbopocaaLDiskFall
import Derived.Test.YtmbkibphbopocaaDiskFall
import Derived.Test.YtmbkibphbopocaaImDiskFall
import Derived.Test.YtmbkibphbopocaaFrame
import Derived.WalkKit
import Derived.ProofKit
import Derived.OpenShut
set_option maxRecDepth 100000
namespace Go.Proofs.Ytmbkibphbopocaa
open Go.ChangeShapes Go.WideShapes Go.ChangeAt Go.RowKit Go.Proofs.Palim

/-- A list of numbers that is an argument. -/
theorem ints_arg {H : Type} {enc : TypeId × Value → H} {W : World} {base : Nat} {v : Value} {d : DataW H} {p : List MemPlace} (hv : Value.okWide Try.prog W .any base 32 v) (h : DataW.Trod enc Try.prog W 0 (fun _ => true) true 32 v d p) :
    ∃ zs : List Int, Sl W 1 v zs.length (ics zs) ∧ Low W.heap.size v := by
  obtain ⟨A, n, c, rfl⟩ := okWide_slice Try.underlying32 hv
  obtain ⟨fuel, hf⟩ := h
  have ho : Cell.okWide Try.prog W .any base 32 (.slice A n c) := by simpa only [Value.okWide, Try.underlying32] using hv
  obtain ⟨zs, hz⟩ := ints_of (enc := enc) ho (by simpa [Value.cells] using hf)
  exact ⟨zs, hz, low_of_ok Try.underlying32 ho⟩

namespace fnExactDiskFall
theorem own : ownKnob Try.prog.godebug = none := by kernel_rfl
theorem laidOut : laidOutB Try.prog = true := by kernel_rfl
theorem lifted (os : Os) (started : os.Started) (H : Type) (enc : TypeId × Value → H) :
    ReturnsInHanded {} Try.checked os 10 .any (Rows.fnExactDiskFallSpec.pre6 enc Try.prog Try.f10 Rows.fnExactDiskFallRow.domain false) (Rows.fnExactDiskFallSpec.post enc Try.prog Try.f10 false true false false) := by
  refine returnsInHanded_of_change (C := Try.checked) own started (by kernel_rfl) Try.func10
    (ChangeSpec.witness6 (enc := enc) (C := Try.checked) false ⟨#[], #[.agg #[.slice none 0 0, .slice none 0 0, .slice none 0 0], .slice none 0 0], []⟩ 8 (by kernel_rfl) (by kernel_rfl) (by kernel_rfl) (by kernel_rfl)) ?_
  intro W base args ds gs before hval0 hW hcnd _
  have hval : ∀ (j : Nat) t v, Try.f10.params[j]? = some t → args[j]? = some v → Value.okWide Try.prog W .any base t v := hval0
  have hW' := hW
  obtain ⟨p, q, hA0, hV, rfl, hfz, hnd⟩ := hW
  have hA : DataW.TrodAll enc Try.prog W 0 (fun _ => true) true Try.f10.params.toList args.toList ds p := hA0
  rw [Try.params10] at hA hval
  obtain ⟨x0, vs0, d0, ds0, p0, q0, hargs, rfl, rfl, h0, r0⟩ := trodAll_cons hA
  obtain ⟨x1, vs1, d1, ds1, p1, q1, rfl, rfl, rfl, h1, r1⟩ := trodAll_cons r0
  obtain ⟨rfl, rfl, rfl⟩ := trodAll_nil r1
  obtain rfl : args = #[x0, x1] := by cases args; simp_all
  obtain ⟨rfl, rfl⟩ := trodVars_none hV
  obtain ⟨v0, v1, vl, d, rfl, hd, hz0, hz1, hzl⟩ := disk_of (hval 0 43 x0 rfl rfl) h0
  obtain ⟨fs, hfs, hfl⟩ := ints_arg (hval 1 32 x1 rfl rfl) h1
  clear hA0 hval0
  refine (lawDiskFall v0 v1 vl x1 d (fallM d fs) fs W hd hz0 hz1 hzl hfs hfl short_fall (fun v0 v1 vl vf w h hs hf hl hn => DiskFall_any v0 v1 vl vf d fs w h hs hf hl hn) (fun v0 v1 vl vf w h hs hf hl hn => ImplDiskFall_any d fs v0 v1 vl vf w h hs hf hl hn)).mono fun e W' ⟨he, hb⟩ => ?_
  subst he
  refine ⟨_, rfl, law_post laidOut ?_ ?_ (by kernel_rfl) Try.underlying4 hW' rfl hb⟩
  · intro t ht
    rw [Try.params10] at ht
    rcases (by simpa using ht : t = 43 ∨ t = 32) with rfl | rfl
    · exact ⟨by kernel_rfl, by decide +kernel⟩
    · exact ⟨by kernel_rfl, by decide +kernel⟩
  · intro n hn
    simp [Rows.fnExactDiskFallSpec] at hn

theorem over : Rows.fnExactDiskFallRow.holds Try.pinned (OpenSpec.ofChange Rows.fnExactDiskFallSpec) :=
  OpenClaim.holds_of_wide 10 Try.f10 rfl rfl rfl rfl rfl rfl rfl ⟨rfl, rfl, rfl, rfl, rfl⟩ rfl rfl rfl rfl rfl (by kernel_rfl) Try.func10 (by kernel_rfl)
    (of_decide_eq_true (by kernel_rfl)) (by unfold Func.isWrapper; first | (rw [if_pos (by decide +kernel)]; kernel_rfl) | (rw [if_neg (by decide +kernel)]; exact ⟨rfl, rfl⟩))
    (fun os started H enc _ => lifted os started H enc)
end fnExactDiskFall
theorem fnExactDiskFall_holds : Rows.FnExactDiskFallSaid := fnExactDiskFall.over
#print axioms fnExactDiskFall_holds
end Go.Proofs.Ytmbkibphbopocaa
