/-
  At every disk, sector and text impl.BlkWrite answers as its model, writes into no argument, and its answer owns its memory: laws.FnExactBlkWrite returns true; no condition.
-/
import Derived.Test.YtfacbjldpenpjaaRows
import Derived.Test.YtfacbjldpenpjaaLBlkWrite
import Derived.Test.YtfacbjldpenpjaaPtrArg
import Derived.Test.YtfacbjldpenpjaaFrame
import Derived.WalkKit
import Derived.ProofKit
import Derived.OpenShut
set_option maxRecDepth 100000
namespace Go.Proofs.Ytfacbjldpenpjaa
open Go.ChangeShapes Go.WideShapes Go.ChangeAt Go.RowKit Go.Proofs.Palim

namespace fnExactBlkWrite
theorem own : ownKnob Try.prog.godebug = none := by kernel_rfl
theorem laidOut : laidOutB Try.prog = true := by kernel_rfl
theorem lifted (os : Os) (started : os.Started) (H : Type) (enc : TypeId × Value → H) :
    ReturnsInHanded {} Try.checked os 6 .any (Rows.fnExactBlkWriteSpec.pre6 enc Try.prog Try.f6 Rows.fnExactBlkWriteRow.domain false) (Rows.fnExactBlkWriteSpec.post enc Try.prog Try.f6 false true false false) := by
  refine returnsInHanded_of_change (C := Try.checked) own started (by kernel_rfl) Try.func6
    (ChangeSpec.witness6 (enc := enc) (C := Try.checked) false ⟨#[], #[.agg #[.slice none 0 0, .slice none 0 0, .slice none 0 0], .int .i64 0, .string ByteArray.empty], []⟩ 8 (by kernel_rfl) (by kernel_rfl) (by kernel_rfl) (by kernel_rfl)) ?_
  intro W base args ds gs before hval0 hW hcnd _
  have hval : ∀ (j : Nat) t v, Try.f6.params[j]? = some t → args[j]? = some v → Value.okWide Try.prog W .any base t v := hval0
  have hW' := hW
  obtain ⟨p, q, hA0, hV, rfl, hfz, hnd⟩ := hW
  have hA : DataW.TrodAll enc Try.prog W 0 (fun _ => true) true Try.f6.params.toList args.toList ds p := hA0
  rw [Try.params6] at hA hval
  obtain ⟨x0, vs0, d0, ds0, p0, q0, hargs, rfl, rfl, h0, r0⟩ := trodAll_cons hA
  obtain ⟨x1, vs1, d1, ds1, p1, q1, rfl, rfl, rfl, h1, r1⟩ := trodAll_cons r0
  obtain ⟨x2, vs2, d2, ds2, p2, q2, rfl, rfl, rfl, h2, r2⟩ := trodAll_cons r1
  obtain ⟨rfl, rfl, rfl⟩ := trodAll_nil r2
  obtain rfl : args = #[x0, x1, x2] := by cases args; simp_all
  obtain ⟨rfl, rfl⟩ := trodVars_none hV
  obtain ⟨v0, v1, vl, d, rfl, hd, hz0, hz1, hzl⟩ := disk_of (hval 0 48 x0 rfl rfl) h0
  obtain ⟨a, rfl, rfl, rfl, wa⟩ := open_int Try.underlying3 (hval 1 3 x1 rfl rfl) h1
  obtain ⟨t, rfl, rfl, rfl, wt⟩ := Go.ChangeMaps.open_string Try.underlying9 (hval 2 9 x2 rfl rfl) h2
  clear hA0 hval0
  refine (lawBlkWrite v0 v1 vl d (blkM d a t) a t (decide (CanBlk d a t)) W wt hd hz0 hz1 hzl (fun ht hs => short_blk ht hs) (fun ht v0 v1 vl w h hs => specBlkWrite_any v0 v1 vl d a t w h hs ht) (fun ht v0 v1 vl w h hs => implBlkWrite_any d a t v0 v1 vl w ht h hs)).mono fun e W' ⟨he, hb⟩ => ?_
  subst he
  refine ⟨_, rfl, law_post laidOut ?_ ?_ (by kernel_rfl) Try.underlying4 hW' rfl hb⟩
  · intro t ht
    rw [Try.params6] at ht
    rcases (by simpa using ht : t = 48 ∨ t = 3 ∨ t = 9) with rfl | rfl | rfl
    · exact ⟨by kernel_rfl, by decide +kernel⟩
    · exact ⟨by kernel_rfl, by decide +kernel⟩
    · exact ⟨by kernel_rfl, by decide +kernel⟩
  · intro n hn
    simp [Rows.fnExactBlkWriteSpec] at hn

theorem over : Rows.fnExactBlkWriteRow.holds Try.pinned (OpenSpec.ofChange Rows.fnExactBlkWriteSpec) :=
  OpenClaim.holds_of_wide 6 Try.f6 rfl rfl rfl rfl rfl rfl rfl ⟨rfl, rfl, rfl, rfl, rfl⟩ rfl rfl rfl rfl rfl (by kernel_rfl) Try.func6 (by kernel_rfl)
    (of_decide_eq_true (by kernel_rfl)) (by unfold Func.isWrapper; first | (rw [if_pos (by decide +kernel)]; kernel_rfl) | (rw [if_neg (by decide +kernel)]; exact ⟨rfl, rfl⟩))
    (fun os started H enc _ => lifted os started H enc)
end fnExactBlkWrite
theorem fnExactBlkWrite_holds : Rows.FnExactBlkWriteSaid := fnExactBlkWrite.over
#print axioms fnExactBlkWrite_holds
end Go.Proofs.Ytfacbjldpenpjaa
