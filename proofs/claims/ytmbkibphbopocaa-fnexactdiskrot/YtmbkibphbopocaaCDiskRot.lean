/-
  At every disk, sector, place and mask impl.DiskRot answers as its model, writes into no argument and owns its answer: laws.FnExactDiskRot returns true; no condition.
-/
import Derived.Test.YtmbkibphbopocaaRows
import Derived.Test.YtmbkibphbopocaaLDiskRot
import Derived.Test.YtmbkibphbopocaaDiskRot
import Derived.Test.YtmbkibphbopocaaImDiskRot
import Derived.Test.YtmbkibphbopocaaFrame
import Derived.WalkKit
import Derived.ProofKit
import Derived.OpenShut
set_option maxRecDepth 100000
namespace Go.Proofs.Ytmbkibphbopocaa
open Go.ChangeShapes Go.WideShapes Go.ChangeAt Go.RowKit Go.Proofs.Palim

theorem set_all {P : ByteArray → Prop} {ss : List ByteArray} (h : ∀ s ∈ ss, P s) {t : ByteArray} (ht : P t) (k : Nat) : ∀ s ∈ ss.set k t, P s := fun s hs => by
  rcases List.mem_or_eq_of_mem_set hs with h' | h'
  · exact h s h'
  · exact h' ▸ ht
theorem short_put {d : DiskM} (h : DiskShort d) (side at_ : Int) {t : ByteArray} (ht : t.size ≤ 1048576) : DiskShort (putM d side at_ t) := by
  have hl := putM_len d side at_ t
  refine ⟨by rw [hl.1]; exact h.n0, by rw [hl.2.1]; exact h.n1, h.nl, ?_, ?_, h.zl⟩
  · unfold putM layM
    split
    · exact set_all h.z0 ht _
    · exact h.z0
  · unfold putM layM
    split
    · exact h.z1
    · exact set_all h.z1 ht _
theorem sect_short {d : DiskM} (h : DiskShort d) (side at_ : Int) : (sect d side at_).size ≤ 1048576 := by
  have hm : (sect d side at_) = ⟨#[]⟩ ∨ (sect d side at_) ∈ d.s0 ∨ (sect d side at_) ∈ d.s1 := by
    unfold sect sideOf
    split
    · rcases Nat.lt_or_ge at_.toNat d.s0.length with h | h
      · right; left; simp [List.getD, List.getElem?_eq_getElem h]
      · left; simp [List.getD, List.getElem?_eq_none h]
    · rcases Nat.lt_or_ge at_.toNat d.s1.length with h | h
      · right; right; simp [List.getD, List.getElem?_eq_getElem h]
      · left; simp [List.getD, List.getElem?_eq_none h]
  rcases hm with h' | h' | h'
  · rw [h']; exact Nat.zero_le _
  · exact h.z0 _ h'
  · exact h.z1 _ h'
theorem short_rot {d : DiskM} {side at_ k mask : Int} (h : DiskShort d) : DiskShort (rotM d side at_ k mask) := by
  unfold rotM
  split
  · split
    · exact short_put h _ _ (by rw [rotB_size]; exact sect_short h _ _)
    · exact h
  · exact short_no

namespace fnExactDiskRot
theorem own : ownKnob Try.prog.godebug = none := by kernel_rfl
theorem laidOut : laidOutB Try.prog = true := by kernel_rfl
theorem lifted (os : Os) (started : os.Started) (H : Type) (enc : TypeId × Value → H) :
    ReturnsInHanded {} Try.checked os 11 .any (Rows.fnExactDiskRotSpec.pre6 enc Try.prog Try.f11 Rows.fnExactDiskRotRow.domain false) (Rows.fnExactDiskRotSpec.post enc Try.prog Try.f11 false true false false) := by
  refine returnsInHanded_of_change (C := Try.checked) own started (by kernel_rfl) Try.func11
    (ChangeSpec.witness6 (enc := enc) (C := Try.checked) false ⟨#[], #[.agg #[.slice none 0 0, .slice none 0 0, .slice none 0 0], .int .i64 0, .int .i64 0, .int .i64 0, .int .i64 0], []⟩ 8 (by kernel_rfl) (by kernel_rfl) (by kernel_rfl) (by kernel_rfl)) ?_
  intro W base args ds gs before hval0 hW hcnd _
  have hval : ∀ (j : Nat) t v, Try.f11.params[j]? = some t → args[j]? = some v → Value.okWide Try.prog W .any base t v := hval0
  have hW' := hW
  obtain ⟨p, q, hA0, hV, rfl, hfz, hnd⟩ := hW
  have hA : DataW.TrodAll enc Try.prog W 0 (fun _ => true) true Try.f11.params.toList args.toList ds p := hA0
  rw [Try.params11] at hA hval
  obtain ⟨x0, vs0, d0, ds0, p0, q0, hargs, rfl, rfl, h0, r0⟩ := trodAll_cons hA
  obtain ⟨x1, vs1, d1, ds1, p1, q1, rfl, rfl, rfl, h1, r1⟩ := trodAll_cons r0
  obtain ⟨x2, vs2, d2, ds2, p2, q2, rfl, rfl, rfl, h2, r2⟩ := trodAll_cons r1
  obtain ⟨x3, vs3, d3, ds3, p3, q3, rfl, rfl, rfl, h3, r3⟩ := trodAll_cons r2
  obtain ⟨x4, vs4, d4, ds4, p4, q4, rfl, rfl, rfl, h4, r4⟩ := trodAll_cons r3
  obtain ⟨rfl, rfl, rfl⟩ := trodAll_nil r4
  obtain rfl : args = #[x0, x1, x2, x3, x4] := by cases args; simp_all
  obtain ⟨rfl, rfl⟩ := trodVars_none hV
  obtain ⟨v0, v1, vl, d, rfl, hd, hz0, hz1, hzl⟩ := disk_of (hval 0 43 x0 rfl rfl) h0
  obtain ⟨side, rfl, rfl, rfl, ws⟩ := open_int Try.underlying3 (hval 1 3 x1 rfl rfl) h1
  obtain ⟨at_, rfl, rfl, rfl, wa⟩ := open_int Try.underlying3 (hval 2 3 x2 rfl rfl) h2
  obtain ⟨k, rfl, rfl, rfl, wk⟩ := open_int Try.underlying3 (hval 3 3 x3 rfl rfl) h3
  obtain ⟨mask, rfl, rfl, rfl, wm⟩ := open_int Try.underlying3 (hval 4 3 x4 rfl rfl) h4
  clear hA0 hval0
  refine (lawDiskRot v0 v1 vl d (rotM d side at_ k mask) side at_ k mask W hd hz0 hz1 hzl short_rot (fun v0 v1 vl w h hs => DiskRot_any v0 v1 vl d side at_ k mask w h hs) (fun v0 v1 vl w h hs => ImplDiskRot_any d side at_ k mask v0 v1 vl w h hs)).mono fun e W' ⟨he, hb⟩ => ?_
  subst he
  refine ⟨_, rfl, law_post laidOut ?_ ?_ (by kernel_rfl) Try.underlying4 hW' rfl hb⟩
  · intro t ht
    rw [Try.params11] at ht
    rcases (by simpa using ht : t = 43 ∨ t = 3) with rfl | rfl
    · exact ⟨by kernel_rfl, by decide +kernel⟩
    · exact ⟨by kernel_rfl, by decide +kernel⟩
  · intro n hn
    simp [Rows.fnExactDiskRotSpec] at hn

theorem over : Rows.fnExactDiskRotRow.holds Try.pinned (OpenSpec.ofChange Rows.fnExactDiskRotSpec) :=
  OpenClaim.holds_of_wide 11 Try.f11 rfl rfl rfl rfl rfl rfl rfl ⟨rfl, rfl, rfl, rfl, rfl⟩ rfl rfl rfl rfl rfl (by kernel_rfl) Try.func11 (by kernel_rfl)
    (of_decide_eq_true (by kernel_rfl)) (by unfold Func.isWrapper; first | (rw [if_pos (by decide +kernel)]; kernel_rfl) | (rw [if_neg (by decide +kernel)]; exact ⟨rfl, rfl⟩))
    (fun os started H enc _ => lifted os started H enc)
end fnExactDiskRot
theorem fnExactDiskRot_holds : Rows.FnExactDiskRotSaid := fnExactDiskRot.over
#print axioms fnExactDiskRot_holds
end Go.Proofs.Ytmbkibphbopocaa
