/-
  At every two codes the last write of a sector is what is read, and is kept or lost as a whole: laws.FnDiskLast returns true; no condition.
-/
import Derived.Test.YtfacbjldpenpjaaRows
import Derived.Test.YtfacbjldpenpjaaLDiskLast
import Derived.Test.YtfacbjldpenpjaaDrawDW
import Derived.Test.YtfacbjldpenpjaaDrawDisk2
import Derived.Test.YtfacbjldpenpjaaFrame
import Derived.WalkKit
import Derived.ProofKit
import Derived.OpenShut
set_option maxRecDepth 100000
namespace Go.Proofs.Ytfacbjldpenpjaa
open Go.ChangeShapes Go.WideShapes Go.ChangeAt Go.RowKit Go.Proofs.Palim

theorem cellsU8 : Try.prog.cellsOf 5 = 1 := by kernel_rfl
/-- A []byte that came in is a code. -/
theorem code_of {H : Type} {enc : TypeId × Value → H} {W : World} {base : Nat} {v : Value} {d : DataW H} {p : List MemPlace} (hv : Value.okWide Try.prog W .any base 22 v)
    (h : DataW.Trod enc Try.prog W 0 (fun _ => true) true 22 v d p) : ∃ A n c, v = .slice A n c ∧ Code W A n c := by
  obtain ⟨A, n, c, rfl⟩ := okWide_slice Try.underlying22 hv
  refine ⟨A, n, c, rfl, ?_⟩
  obtain ⟨fuel, hf⟩ := h
  rcases open_ints Try.underlying22 Try.underlying5 cellsU8 hf with ⟨hcs, _⟩ | ⟨a, len', cap', zs, hcs, _, hl, hm, hz, _, hcell, hw⟩
  · have e : (.slice A n c : Value) = .slice none 0 0 := by simpa [Value.cells] using hcs
    injection e with e1 e2 e3
    subst e1 e2 e3
    exact ⟨Nat.le_refl _, Nat.zero_le _, Nat.zero_le _, Or.inl rfl⟩
  · have e : (.slice A n c : Value) = .slice (some a) len' cap' := by simpa [Value.cells] using hcs
    injection e with e1 e2 e3
    subst e1 e2 e3
    simp only [if_true] at hz
    refine ⟨hl, Nat.le_trans hl hm, hm, ?_⟩
    by_cases h0 : n = 0
    · exact Or.inl h0
    · right
      obtain ⟨b, off, rfl, hc⟩ := ints_at hcell (by omega)
      refine ⟨b, off, rfl, World.block_lt_of_cell? _ _ (hc 0 (by omega)), fun i hi => ?_⟩
      have hi' : i < zs.length := by omega
      have hb := bounds_u8 (hw zs[i] (List.getElem_mem hi'))
      refine ⟨UInt8.ofNat zs[i].toNat, ?_⟩
      rw [hc i hi', List.getD_eq_getElem?_getD, List.getElem?_eq_getElem hi', Option.getD_some, UInt8.toNat_ofNat_of_lt' (by have : UInt8.size = 256 := rfl; omega)]
      congr 2
      omega

namespace fnDiskLast
theorem own : ownKnob Try.prog.godebug = none := by kernel_rfl
theorem laidOut : laidOutB Try.prog = true := by kernel_rfl
theorem lifted (os : Os) (started : os.Started) (H : Type) (enc : TypeId × Value → H) :
    ReturnsInHanded {} Try.checked os 3 .any (Rows.fnDiskLastSpec.pre6 enc Try.prog Try.f3 Rows.fnDiskLastRow.domain false) (Rows.fnDiskLastSpec.post enc Try.prog Try.f3 false true false false) := by
  refine returnsInHanded_of_change (C := Try.checked) own started (by kernel_rfl) Try.func3
    (ChangeSpec.witness6 (enc := enc) (C := Try.checked) false ⟨#[], #[.slice none 0 0, .slice none 0 0], []⟩ 8 (by kernel_rfl) (by kernel_rfl) (by kernel_rfl) (by kernel_rfl)) ?_
  intro W base args ds gs before hval0 hW hcnd _
  have hval : ∀ (j : Nat) t v, Try.f3.params[j]? = some t → args[j]? = some v → Value.okWide Try.prog W .any base t v := hval0
  have hW' := hW
  obtain ⟨p, q, hA0, hV, rfl, hfz, hnd⟩ := hW
  have hA : DataW.TrodAll enc Try.prog W 0 (fun _ => true) true Try.f3.params.toList args.toList ds p := hA0
  rw [Try.params3] at hA hval
  obtain ⟨x0, vs0, d0, ds0, p0, q0, hargs, rfl, rfl, h0, r0⟩ := trodAll_cons hA
  obtain ⟨x1, vs1, d1, ds1, p1, q1, rfl, rfl, rfl, h1, r1⟩ := trodAll_cons r0
  obtain ⟨rfl, rfl, rfl⟩ := trodAll_nil r1
  obtain rfl : args = #[x0, x1] := by cases args; simp_all
  obtain ⟨rfl, rfl⟩ := trodVars_none hV
  obtain ⟨A1, n1, c1, rfl, hc1⟩ := code_of (hval 0 22 x0 rfl rfl) h0
  obtain ⟨A2, n2, c2, rfl, hc2⟩ := code_of (hval 1 22 x1 rfl rfl) h1
  clear hA0 hval0
  refine (lawDiskLast A1 A2 n1 c1 n2 c2 W hc1 hc2 (fun A n c w h => drawDiskWrite_of (fun g k w h1 h2 => l2Disk_any g k w h1 h2) A n c w h)).mono fun e W' ⟨he, hb⟩ => ?_
  subst he
  refine ⟨_, rfl, law_post laidOut ?_ ?_ (by kernel_rfl) Try.underlying4 hW' rfl hb⟩
  · intro t ht
    rw [Try.params3] at ht
    obtain rfl : t = 22 := by simpa using ht
    exact ⟨by kernel_rfl, by decide +kernel⟩
  · intro n hn
    simp [Rows.fnDiskLastSpec] at hn

theorem over : Rows.fnDiskLastRow.holds Try.pinned (OpenSpec.ofChange Rows.fnDiskLastSpec) :=
  OpenClaim.holds_of_wide 3 Try.f3 rfl rfl rfl rfl rfl rfl rfl ⟨rfl, rfl, rfl, rfl, rfl⟩ rfl rfl rfl rfl rfl (by kernel_rfl) Try.func3 (by kernel_rfl)
    (of_decide_eq_true (by kernel_rfl)) (by unfold Func.isWrapper; first | (rw [if_pos (by decide +kernel)]; kernel_rfl) | (rw [if_neg (by decide +kernel)]; exact ⟨rfl, rfl⟩))
    (fun os started H enc _ => lifted os started H enc)
end fnDiskLast
theorem fnDiskLast_holds : Rows.FnDiskLastSaid := fnDiskLast.over
#print axioms fnDiskLast_holds
end Go.Proofs.Ytfacbjldpenpjaa
