/-
  At every two codes a block written leaves what other pointers read, and is read behind a flush and a power failure: the law FnBlkOne returns true, as the card states it.
  Conditions: the row's own (the two error variables start as the program's text lays them; the card ties them).
-/
import Derived.Test.YtfacbjldpenpjaaDoorCards
import Derived.Test.YtfacbjldpenpjaaDoorTie
import Derived.Test.YtfacbjldpenpjaaDoorLBlkOne
import Derived.Test.YtfacbjldpenpjaaDoorDraw3
import Derived.Test.YtfacbjldpenpjaaDoorFrame2
import Derived.WalkKit
import Derived.ProofKit
import Derived.OpenShut
import Derived.Deep.DeepHandedRow
import Derived.Lib.LaidTab
import Derived.LaidMore
import Derived.Stop.LaidErr
set_option maxRecDepth 100000
namespace Go.Proofs.YtfacbjldpenpjaaDoor
namespace fnBlkOne
open Go.ChangeShapes Go.WideShapes Go.ChangeAt Go.RowKit Go.Proofs.Palim

theorem own : ownKnob Tryd.prog.godebug = none := by kernel_rfl
theorem laidOut : laidOutB Tryd.prog = true := by kernel_rfl
theorem cellsU8 : Tryd.prog.cellsOf 5 = 1 := by kernel_rfl
/-- A []byte that came in is a code. -/
theorem code_of {H : Type} {enc : TypeId × Value → H} {W : World} {base : Nat} {v : Value} {d : DataW H} {p : List MemPlace} (hv : Value.okWide Tryd.prog W .any base 22 v)
    (h : DataW.Trod enc Tryd.prog W 0 (fun _ => true) true 22 v d p) : ∃ A n c, v = .slice A n c ∧ Code W A n c := by
  obtain ⟨A, n, c, rfl⟩ := okWide_slice Tryd.underlying22 hv
  refine ⟨A, n, c, rfl, ?_⟩
  obtain ⟨fuel, hf⟩ := h
  rcases open_ints Tryd.underlying22 Tryd.underlying5 cellsU8 hf with ⟨hcs, _⟩ | ⟨a, len', cap', zs, hcs, _, hl, hm, hz, _, hcell, hw⟩
  · have e : (.slice A n c : Value) = .slice none 0 0 := by simpa [Value.cells] using hcs
    injection e with e1 e2 e3
    subst e1 e2 e3
    exact ⟨Nat.le_refl _, Nat.zero_le _, Nat.zero_le _, Or.inl rfl⟩
  · have e : (.slice A n c : Value) = .slice (some a) len' cap' := by simpa [Value.cells] using hcs
    injection e with e1 e2 e3
    subst e1 e2 e3
    simp only [if_true] at hz
    refine ⟨hl, Nat.le_trans hl hm, hm, ?_⟩
    by_cases h0 : n = 0
    · exact Or.inl h0
    · right
      obtain ⟨b, off, rfl, hc⟩ := ints_at hcell (by omega)
      refine ⟨b, off, rfl, World.block_lt_of_cell? _ _ (hc 0 (by omega)), fun i hi => ?_⟩
      have hi' : i < zs.length := by omega
      have hb := bounds_u8 (hw zs[i] (List.getElem_mem hi'))
      refine ⟨UInt8.ofNat zs[i].toNat, ?_⟩
      rw [hc i hi', List.getD_eq_getElem?_getD, List.getElem?_eq_getElem hi', Option.getD_some, UInt8.toNat_ofNat_of_lt' (by have : UInt8.size = 256 := rfl; omega)]
      congr 2
      omega

theorem contract (H : Type) (enc : TypeId × Value → H) (W : World) (base : Nat) (args : Array Value) (ds gs : List (DataW H)) (before : List MemPlace)
    (hval : ∀ (j : Nat) t v, Tryd.f3.params[j]? = some t → args[j]? = some v → Value.okWide Tryd.prog W .any base t v)
    (hW : DataW.Whole enc Tryd.prog Tryd.f3.params.toList Rows.fnBlkOneSpec.vars false W args.toList ds gs before) (hL : laidMetH Tryd.prog Rows.fnBlkOneRow.laid W) :
    Calls Tryd.prog 3 args W fun e W' => ∃ v, e = .returned v ∧ Rows.fnBlkOneSpec.post enc Tryd.prog Tryd.f3 false true false false W args v W' := by
  have hW' := hW
  obtain ⟨p, q, hA0, hV, rfl, hfz, hnd⟩ := hW
  have hA : DataW.TrodAll enc Tryd.prog W 0 (fun _ => true) true Tryd.f3.params.toList args.toList ds p := hA0
  rw [Tryd.params3] at hA hval
  obtain ⟨x0, vs0, d0, ds0, p0, q0, hargs, rfl, rfl, h0, r0⟩ := trodAll_cons hA
  obtain ⟨x1, vs1, d1, ds1, p1, q1, rfl, rfl, rfl, h1, r1⟩ := trodAll_cons r0
  obtain ⟨rfl, rfl, rfl⟩ := trodAll_nil r1
  obtain rfl : args = #[x0, x1] := by cases args; simp_all
  obtain ⟨a0, a1, hh⟩ := held_of_laid (W := W) hL
  obtain ⟨rfl, rfl⟩ := DataW.TrodVars.unique hV (hh.reads _)
  obtain ⟨A1, n1, c1, rfl, hc1⟩ := code_of (hval 0 22 x0 rfl rfl) h0
  obtain ⟨A2, n2, c2, rfl, hc2⟩ := code_of (hval 1 22 x1 rfl rfl) h1
  clear hA0
  refine (lawBlkOne A1 A2 n1 c1 n2 c2 a0 a1 W hc1 hc2 hh.errs (fun A n c w h => drawBlkWrite_any A n c w h)).mono fun e W' ⟨he, hb⟩ => ?_
  subst he
  refine ⟨_, rfl, law_post_held laidOut ?_ (fun sp q hq => hh.stay hb sp _ q hq) (by kernel_rfl) Tryd.underlying4 hW' rfl hb⟩
  intro t ht
  rw [Tryd.params3] at ht
  obtain rfl : t = 22 := by simpa using ht
  exact ⟨by kernel_rfl, by decide +kernel⟩

/-- The door's own heap meets the row's condition. -/
theorem door_met (os : Os) (args : Array Value) : laidMet Tryd.prog Rows.fnBlkOneRow.laid ((World.doorLaid Tryd.prog 400 os).forCall (fun _ _ => 0) ⟨#[], args, []⟩).memory :=
  laidMet_of_run' 8 (by kernel_rfl) (by kernel_rfl)

theorem lifted (os : Os) (started : os.Started) (H : Type) (enc : TypeId × Value → H) (F : Stop.Interp) :
    ReturnsInHanded {} Tryd.checked os 3 .any ((OpenSpec.ofChange Rows.fnBlkOneSpec).preRow enc Tryd.prog Tryd.f3 Rows.fnBlkOneRow.domain false Rows.fnBlkOneRow.laid) (((OpenSpec.ofChange Rows.fnBlkOneSpec).at F).post enc Tryd.prog Tryd.f3 false true false false) := by
  refine returnsInHanded_of_row (C := Tryd.checked) (s := OpenSpec.ofChange Rows.fnBlkOneSpec) own started (by kernel_rfl) Tryd.func3
    (witness_row_at (enc := enc) (C := Tryd.checked) false (World.doorLaid Tryd.prog 400 os) #[.slice none 0 0, .slice none 0 0] rfl (by kernel_rfl) (by kernel_rfl) (by kernel_rfl)
      (OpenSpec.preRow_of_B rfl 8 (by kernel_rfl) (by kernel_rfl) (door_met os _))) ?_
  intro W base args ds gs before hval hW _ _ _ hL hsh _
  exact contract H enc W base args ds gs before hval hW hL

theorem said : Rows.FnBlkOneSaid :=
  OpenClaim.holds_of_cond 3 Tryd.f3 rfl rfl rfl rfl rfl rfl rfl ⟨rfl, rfl, rfl, rfl, rfl⟩ rfl rfl rfl rfl rfl (by kernel_rfl) Tryd.func3 (by kernel_rfl)
    (of_decide_eq_true (by kernel_rfl)) (by unfold Func.isWrapper; first | (rw [if_pos (by decide +kernel)]; kernel_rfl) | (rw [if_neg (by decide +kernel)]; exact ⟨rfl, rfl⟩))
    (fun os started H enc _ F => by rw [OpenClaim.pre_eq_preRow]; exact lifted os started H enc F)

theorem plain (f : FuncId) (fn : Func) (hf : Tryd.pinned.checked.prog.funcNamed "loop.example/palim/laws.FnBlkOne" = some f) (hfn : Tryd.pinned.checked.prog.funcs[f]? = some fn) :
    true = Tryd.pinned.checked.prog.looks [] ∧ ∀ (j : Nat) t, fn.params[j]? = some t → Tryd.pinned.checked.prog.wantsStandIn t = false := by
  obtain rfl : f = 3 := Option.some.inj ((show Tryd.prog.funcNamed "loop.example/palim/laws.FnBlkOne" = some 3 by kernel_rfl).symm.trans hf) |>.symm
  obtain rfl : fn = Tryd.f3 := (Option.some.inj (Tryd.func3.symm.trans hfn)).symm
  refine ⟨by kernel_rfl, fun j t ht => ?_⟩
  rw [Tryd.params3] at ht
  obtain rfl : t = 22 := by simpa using Array.mem_of_getElem? ht
  exact (show Tryd.prog.wantsStandIn 22 = false by kernel_rfl)
end fnBlkOne

/-- THE CARD. -/
theorem fnBlkOne_card : Rows.FnBlkOneCardSaid :=
  Claim7.holds_tied_plain_at .later [] _ _ _ _ fnBlkOne.said (fun _ h => by cases h) (by kernel_rfl) (fun _ h => by cases h) fnBlkOne_row_tie rfl ⟨rfl, rfl⟩ (by kernel_rfl) rfl fnBlkOne.plain (by kernel_rfl)
#print axioms fnBlkOne_card
end Go.Proofs.YtfacbjldpenpjaaDoor
