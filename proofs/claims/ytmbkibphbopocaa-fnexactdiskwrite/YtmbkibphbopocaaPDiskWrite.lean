/-
  The law FnExactDiskWrite, but for impl's contract.
-/
import Derived.Test.YtmbkibphbopocaaRows
import Derived.Test.YtmbkibphbopocaaLDiskWrite
import Derived.Test.YtmbkibphbopocaaFrame
import Derived.WalkKit
import Derived.ProofKit
import Derived.OpenShut
import Derived.ShutString
namespace Go.Proofs.Ytmbkibphbopocaa
open Go.ChangeShapes Go.WideShapes Go.ChangeAt Go.RowKit Go.Proofs.Palim


def ImplDiskWrite : Prop := ∀ (d : DiskM) (side at_ : Int) (text : ByteArray) (v0 v1 vl : Value) (w : World), text.size ≤ maxLen → DiskR w v0 v1 vl d → DiskShort d → Calls Try.prog 13 #[.agg #[v0, v1, vl], .int .i64 side, .int .i64 at_, .string text] w (NewDisk2 w (writeM d side at_ text) (decide (CanWrite d side at_ text)))

theorem short_write {d : DiskM} {side at_ : Int} {text : ByteArray} (ht : text.size ≤ 1048576) (h : DiskShort d) : DiskShort (writeM d side at_ text) := by
  unfold writeM
  split
  · rename_i hc
    have h6 := hc.1.2.2.2.1
    refine ⟨h.n0, h.n1, by simp; omega, h.z0, h.z1, ?_⟩
    intro x hx
    rcases List.mem_append.1 hx with hx | hx
    · exact h.zl x hx
    · obtain rfl := List.mem_singleton.1 hx
      exact ht
  · split
    · exact h
    · exact short_no

namespace fnExactDiskWrite
theorem own : ownKnob Try.prog.godebug = none := by kernel_rfl
theorem laidOut : laidOutB Try.prog = true := by kernel_rfl
set_option maxRecDepth 100000 in
theorem lifted (hI : ImplDiskWrite) (os : Os) (started : os.Started) (H : Type) (enc : TypeId × Value → H) :
    ReturnsInHanded {} Try.checked os 8 .any (Rows.fnExactDiskWriteSpec.pre6 enc Try.prog Try.f8 Rows.fnExactDiskWriteRow.domain false) (Rows.fnExactDiskWriteSpec.post enc Try.prog Try.f8 false true false false) := by
  refine returnsInHanded_of_change (C := Try.checked) own started (by kernel_rfl) Try.func8
    (ChangeSpec.witness6 (enc := enc) (C := Try.checked) false ⟨#[], #[.agg #[.slice none 0 0, .slice none 0 0, .slice none 0 0], .int .i64 0, .int .i64 0, .string ByteArray.empty], []⟩ 8 (by kernel_rfl) (by kernel_rfl) (by kernel_rfl) (by kernel_rfl)) ?_
  intro W base args ds gs before hval0 hW hcnd _
  have hval : ∀ (j : Nat) t v, Try.f8.params[j]? = some t → args[j]? = some v → Value.okWide Try.prog W .any base t v := hval0
  have hW' := hW
  obtain ⟨p, q, hA0, hV, rfl, hfz, hnd⟩ := hW
  have hA : DataW.TrodAll enc Try.prog W 0 (fun _ => true) true Try.f8.params.toList args.toList ds p := hA0
  rw [Try.params8] at hA hval
  obtain ⟨x0, vs0, d0, ds0, p0, q0, hargs, rfl, rfl, h0, r0⟩ := trodAll_cons hA
  obtain ⟨x1, vs1, d1, ds1, p1, q1, rfl, rfl, rfl, h1, r1⟩ := trodAll_cons r0
  obtain ⟨x2, vs2, d2, ds2, p2, q2, rfl, rfl, rfl, h2, r2⟩ := trodAll_cons r1
  obtain ⟨x3, vs3, d3, ds3, p3, q3, rfl, rfl, rfl, h3, r3⟩ := trodAll_cons r2
  obtain ⟨rfl, rfl, rfl⟩ := trodAll_nil r3
  obtain rfl : args = #[x0, x1, x2, x3] := by cases args; simp_all
  obtain ⟨rfl, rfl⟩ := trodVars_none hV
  obtain ⟨v0, v1, vl, d, rfl, hd, hz0, hz1, hzl⟩ := disk_of (hval 0 43 x0 rfl rfl) h0
  obtain ⟨side, rfl, rfl, rfl, ws⟩ := open_int Try.underlying3 (hval 1 3 x1 rfl rfl) h1
  obtain ⟨at_, rfl, rfl, rfl, wa⟩ := open_int Try.underlying3 (hval 2 3 x2 rfl rfl) h2
  obtain ⟨text, rfl, rfl, rfl, wt⟩ := Go.ChangeMaps.open_string Try.underlying9 (hval 3 9 x3 rfl rfl) h3
  clear hA0 hval0
  refine (lawDiskWrite v0 v1 vl d (writeM d side at_ text) side at_ text (decide (CanWrite d side at_ text)) W wt hd hz0 hz1 hzl short_write (fun _ _ _ w h hs => DiskWrite_any _ _ _ d side at_ text w h hs wt) (fun v0 v1 vl w h hs => hI d side at_ text v0 v1 vl w wt h hs)).mono fun e W' ⟨he, hb⟩ => ?_
  subst he
  refine ⟨_, rfl, law_post laidOut ?_ ?_ (by kernel_rfl) Try.underlying4 hW' rfl hb⟩
  · intro t ht
    rw [Try.params8] at ht
    rcases (by simpa using ht : t = 43 ∨ t = 3 ∨ t = 9) with rfl | rfl | rfl
    · exact ⟨by kernel_rfl, by decide +kernel⟩
    · exact ⟨by kernel_rfl, by decide +kernel⟩
    · exact ⟨by kernel_rfl, by decide +kernel⟩
  · intro n hn
    simp [Rows.fnExactDiskWriteSpec] at hn

theorem over (hI : ImplDiskWrite) : Rows.fnExactDiskWriteRow.holds Try.pinned (OpenSpec.ofChange Rows.fnExactDiskWriteSpec) :=
  OpenClaim.holds_of_wide 8 Try.f8 rfl rfl rfl rfl rfl rfl rfl ⟨rfl, rfl, rfl, rfl, rfl⟩ rfl rfl rfl rfl rfl (by kernel_rfl) Try.func8 (by kernel_rfl)
    (of_decide_eq_true (by kernel_rfl)) (by unfold Func.isWrapper; first | (rw [if_pos (by decide +kernel)]; kernel_rfl) | (rw [if_neg (by decide +kernel)]; exact ⟨rfl, rfl⟩))
    (fun os started H enc _ => lifted hI os started H enc)
end fnExactDiskWrite
theorem fnExactDiskWrite_of (hI : ImplDiskWrite) : Rows.FnExactDiskWriteSaid := fnExactDiskWrite.over hI
#print axioms fnExactDiskWrite_of
end Go.Proofs.Ytmbkibphbopocaa
