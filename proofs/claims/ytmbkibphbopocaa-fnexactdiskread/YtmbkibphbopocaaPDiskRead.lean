/-
  The law FnExactDiskRead, but for impl's contract.
-/
import Derived.Test.YtmbkibphbopocaaRows
import Derived.Test.YtmbkibphbopocaaLDiskRead
import Derived.Test.YtmbkibphbopocaaFrame
import Derived.WalkKit
import Derived.ProofKit
import Derived.OpenShut
namespace Go.Proofs.Ytmbkibphbopocaa
open Go.ChangeShapes Go.WideShapes Go.ChangeAt Go.RowKit Go.Proofs.Palim


def ImplDiskRead : Prop := ∀ (d : DiskM) (side at_ : Int) (v0 v1 vl : Value) (w : World), DiskR w v0 v1 vl d → DiskShort d → Calls Try.prog 15 #[.agg #[v0, v1, vl], .int .i64 side, .int .i64 at_] w fun e w' => e = .returned (.tuple #[.string (readOut d side at_), .bool (decide (CanRead d side at_))]) ∧ Below w.heap.size w w'

namespace fnExactDiskRead
theorem own : ownKnob Try.prog.godebug = none := by kernel_rfl
theorem laidOut : laidOutB Try.prog = true := by kernel_rfl
set_option maxRecDepth 100000 in
theorem lifted (hI : ImplDiskRead) (os : Os) (started : os.Started) (H : Type) (enc : TypeId × Value → H) :
    ReturnsInHanded {} Try.checked os 7 .any (Rows.fnExactDiskReadSpec.pre6 enc Try.prog Try.f7 Rows.fnExactDiskReadRow.domain false) (Rows.fnExactDiskReadSpec.post enc Try.prog Try.f7 false true false false) := by
  refine returnsInHanded_of_change (C := Try.checked) own started (by kernel_rfl) Try.func7
    (ChangeSpec.witness6 (enc := enc) (C := Try.checked) false ⟨#[], #[.agg #[.slice none 0 0, .slice none 0 0, .slice none 0 0], .int .i64 0, .int .i64 0], []⟩ 8 (by kernel_rfl) (by kernel_rfl) (by kernel_rfl) (by kernel_rfl)) ?_
  intro W base args ds gs before hval0 hW hcnd _
  have hval : ∀ (j : Nat) t v, Try.f7.params[j]? = some t → args[j]? = some v → Value.okWide Try.prog W .any base t v := hval0
  have hW' := hW
  obtain ⟨p, q, hA0, hV, rfl, hfz, hnd⟩ := hW
  have hA : DataW.TrodAll enc Try.prog W 0 (fun _ => true) true Try.f7.params.toList args.toList ds p := hA0
  rw [Try.params7] at hA hval
  obtain ⟨x0, vs0, d0, ds0, p0, q0, hargs, rfl, rfl, h0, r0⟩ := trodAll_cons hA
  obtain ⟨x1, vs1, d1, ds1, p1, q1, rfl, rfl, rfl, h1, r1⟩ := trodAll_cons r0
  obtain ⟨x2, vs2, d2, ds2, p2, q2, rfl, rfl, rfl, h2, r2⟩ := trodAll_cons r1
  obtain ⟨rfl, rfl, rfl⟩ := trodAll_nil r2
  obtain rfl : args = #[x0, x1, x2] := by cases args; simp_all
  obtain ⟨rfl, rfl⟩ := trodVars_none hV
  obtain ⟨v0, v1, vl, d, rfl, hd, hz0, hz1, hzl⟩ := disk_of (hval 0 43 x0 rfl rfl) h0
  obtain ⟨side, rfl, rfl, rfl, ws⟩ := open_int Try.underlying3 (hval 1 3 x1 rfl rfl) h1
  obtain ⟨at_, rfl, rfl, rfl, wa⟩ := open_int Try.underlying3 (hval 2 3 x2 rfl rfl) h2
  clear hA0 hval0
  refine (lawDiskRead v0 v1 vl d side at_ W hd hz0 hz1 hzl (hI d side at_)).mono fun e W' ⟨he, hb⟩ => ?_
  subst he
  refine ⟨_, rfl, law_post laidOut ?_ ?_ (by kernel_rfl) Try.underlying4 hW' rfl hb⟩
  · intro t ht
    rw [Try.params7] at ht
    rcases (by simpa using ht : t = 43 ∨ t = 3) with rfl | rfl
    · exact ⟨by kernel_rfl, by decide +kernel⟩
    · exact ⟨by kernel_rfl, by decide +kernel⟩
  · intro n hn
    simp [Rows.fnExactDiskReadSpec] at hn

theorem over (hI : ImplDiskRead) : Rows.fnExactDiskReadRow.holds Try.pinned (OpenSpec.ofChange Rows.fnExactDiskReadSpec) :=
  OpenClaim.holds_of_wide 7 Try.f7 rfl rfl rfl rfl rfl rfl rfl ⟨rfl, rfl, rfl, rfl, rfl⟩ rfl rfl rfl rfl rfl (by kernel_rfl) Try.func7 (by kernel_rfl)
    (of_decide_eq_true (by kernel_rfl)) (by unfold Func.isWrapper; first | (rw [if_pos (by decide +kernel)]; kernel_rfl) | (rw [if_neg (by decide +kernel)]; exact ⟨rfl, rfl⟩))
    (fun os started H enc _ => lifted hI os started H enc)
end fnExactDiskRead
theorem fnExactDiskRead_of (hI : ImplDiskRead) : Rows.FnExactDiskReadSaid := fnExactDiskRead.over hI
#print axioms fnExactDiskRead_of
end Go.Proofs.Ytmbkibphbopocaa
