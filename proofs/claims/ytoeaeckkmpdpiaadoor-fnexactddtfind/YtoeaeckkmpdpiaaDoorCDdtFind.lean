/-
  At every disk, list of entries and text impl.DdtFind answers as its model and writes into no argument: the law FnExactDdtFind returns true, as the card states it.
  Conditions: the row's own (the two error variables start as the program's text lays them; the card ties them).
-/
import Derived.Test.YtoeaeckkmpdpiaaDoorCards
import Derived.Test.YtoeaeckkmpdpiaaDoorTie
import Derived.Test.YtoeaeckkmpdpiaaDoorLDdtFind
import Derived.Test.YtoeaeckkmpdpiaaDoorDdtArg
import Derived.Test.YtoeaeckkmpdpiaaDoorFrame2
import Derived.WalkKit
import Derived.ProofKit
import Derived.OpenShut
import Derived.Deep.DeepHandedRow
import Derived.Lib.LaidTab
import Derived.LaidMore
import Derived.Stop.LaidErr
set_option maxRecDepth 100000
namespace Go.Proofs.YtoeaeckkmpdpiaaDoor
namespace fnExactDdtFind
open Go.ChangeShapes Go.WideShapes Go.ChangeAt Go.RowKit Go.Proofs.Palim

theorem own : ownKnob Tryd.prog.godebug = none := by kernel_rfl
theorem laidOut : laidOutB Tryd.prog = true := by kernel_rfl

theorem contract (H : Type) (enc : TypeId × Value → H) (W : World) (base : Nat) (args : Array Value) (ds gs : List (DataW H)) (before : List MemPlace)
    (hval : ∀ (j : Nat) t v, Tryd.f4.params[j]? = some t → args[j]? = some v → Value.okWide Tryd.prog W .any base t v)
    (hW : DataW.Whole enc Tryd.prog Tryd.f4.params.toList Rows.fnExactDdtFindSpec.vars false W args.toList ds gs before) (hL : laidMetH Tryd.prog Rows.fnExactDdtFindRow.laid W) :
    Calls Tryd.prog 4 args W fun e W' => ∃ v, e = .returned v ∧ Rows.fnExactDdtFindSpec.post enc Tryd.prog Tryd.f4 false true false false W args v W' := by
  have hW' := hW
  obtain ⟨p, q, hA0, hV, rfl, hfz, hnd⟩ := hW
  have hA : DataW.TrodAll enc Tryd.prog W 0 (fun _ => true) true Tryd.f4.params.toList args.toList ds p := hA0
  rw [Tryd.params4] at hA hval
  obtain ⟨x0, vs0, d0, ds0, p0, q0, hargs, rfl, rfl, h0, r0⟩ := trodAll_cons hA
  obtain ⟨x1, vs1, d1, ds1, p1, q1, rfl, rfl, rfl, h1, r1⟩ := trodAll_cons r0
  obtain ⟨x2, vs2, d2, ds2, p2, q2, rfl, rfl, rfl, h2, r2⟩ := trodAll_cons r1
  obtain ⟨rfl, rfl, rfl⟩ := trodAll_nil r2
  obtain rfl : args = #[x0, x1, x2] := by cases args; simp_all
  obtain ⟨a0, a1, hh⟩ := held_of_laid (W := W) hL
  obtain ⟨rfl, rfl⟩ := DataW.TrodVars.unique hV (hh.reads _)
  obtain ⟨v0, v1, vl, d, rfl, hd, hz0, hz1, hzl⟩ := disk_of (hval 0 32 x0 rfl rfl) h0
  obtain ⟨ls, hls, hlow, hfit⟩ := ents_arg (hval 1 33 x1 rfl rfl) h1
  obtain ⟨tx, rfl, rfl, rfl, htx⟩ := Go.ChangeMaps.open_string Tryd.underlying9 (hval 2 9 x2 rfl rfl) h2
  clear hA0
  refine (lawDdtFind v0 v1 vl d x1 ls tx a0 a1 W hd hh.errs hz0 hz1 hzl hls hlow htx).mono fun e W' ⟨he, hb⟩ => ?_
  subst he
  refine ⟨_, rfl, law_post_held laidOut ?_ (fun sp q hq => hh.stay hb sp _ q hq) (by kernel_rfl) Tryd.underlying4 hW' rfl hb⟩
  intro t ht
  rw [Tryd.params4] at ht
  rcases (by simpa using ht : t = 32 ∨ t = 33 ∨ t = 9) with rfl | rfl | rfl
  · exact ⟨by kernel_rfl, by decide +kernel⟩
  · exact ⟨by kernel_rfl, by decide +kernel⟩
  · exact ⟨by kernel_rfl, by decide +kernel⟩

/-- The door's own heap meets the row's condition. -/
theorem door_met (os : Os) (args : Array Value) : laidMet Tryd.prog Rows.fnExactDdtFindRow.laid ((World.doorLaid Tryd.prog 400 os).forCall (fun _ _ => 0) ⟨#[], args, []⟩).memory :=
  laidMet_of_run' 8 (by kernel_rfl) (by kernel_rfl)

theorem lifted (os : Os) (started : os.Started) (H : Type) (enc : TypeId × Value → H) (F : Stop.Interp) :
    ReturnsInHanded {} Tryd.checked os 4 .any ((OpenSpec.ofChange Rows.fnExactDdtFindSpec).preRow enc Tryd.prog Tryd.f4 Rows.fnExactDdtFindRow.domain false Rows.fnExactDdtFindRow.laid) (((OpenSpec.ofChange Rows.fnExactDdtFindSpec).at F).post enc Tryd.prog Tryd.f4 false true false false) := by
  refine returnsInHanded_of_row (C := Tryd.checked) (s := OpenSpec.ofChange Rows.fnExactDdtFindSpec) own started (by kernel_rfl) Tryd.func4
    (witness_row_at (enc := enc) (C := Tryd.checked) false (World.doorLaid Tryd.prog 400 os) #[.agg #[.slice none 0 0, .slice none 0 0, .slice none 0 0], .slice none 0 0, .string ByteArray.empty] rfl (by kernel_rfl) (by kernel_rfl) (by kernel_rfl)
      (OpenSpec.preRow_of_B rfl 8 (by kernel_rfl) (by kernel_rfl) (door_met os _))) ?_
  intro W base args ds gs before hval hW _ _ _ hL hsh _
  exact contract H enc W base args ds gs before hval hW hL

theorem said : Rows.FnExactDdtFindSaid :=
  OpenClaim.holds_of_cond 4 Tryd.f4 rfl rfl rfl rfl rfl rfl rfl ⟨rfl, rfl, rfl, rfl, rfl⟩ rfl rfl rfl rfl rfl (by kernel_rfl) Tryd.func4 (by kernel_rfl)
    (of_decide_eq_true (by kernel_rfl)) (by unfold Func.isWrapper; first | (rw [if_pos (by decide +kernel)]; kernel_rfl) | (rw [if_neg (by decide +kernel)]; exact ⟨rfl, rfl⟩))
    (fun os started H enc _ F => by rw [OpenClaim.pre_eq_preRow]; exact lifted os started H enc F)

theorem plain (f : FuncId) (fn : Func) (hf : Tryd.pinned.checked.prog.funcNamed "loop.example/palim/laws.FnExactDdtFind" = some f) (hfn : Tryd.pinned.checked.prog.funcs[f]? = some fn) :
    true = Tryd.pinned.checked.prog.looks [] ∧ ∀ (j : Nat) t, fn.params[j]? = some t → Tryd.pinned.checked.prog.wantsStandIn t = false := by
  obtain rfl : f = 4 := Option.some.inj ((show Tryd.prog.funcNamed "loop.example/palim/laws.FnExactDdtFind" = some 4 by kernel_rfl).symm.trans hf) |>.symm
  obtain rfl : fn = Tryd.f4 := (Option.some.inj (Tryd.func4.symm.trans hfn)).symm
  refine ⟨by kernel_rfl, fun j t ht => ?_⟩
  rw [Tryd.params4] at ht
  rcases (by simpa using Array.mem_of_getElem? ht : t = 32 ∨ t = 33 ∨ t = 9) with rfl | rfl | rfl
  · exact (show Tryd.prog.wantsStandIn 32 = false by kernel_rfl)
  · exact (show Tryd.prog.wantsStandIn 33 = false by kernel_rfl)
  · exact (show Tryd.prog.wantsStandIn 9 = false by kernel_rfl)
end fnExactDdtFind

/-- THE CARD. -/
theorem fnExactDdtFind_card : Rows.FnExactDdtFindCardSaid :=
  Claim7.holds_tied_plain_at .later [] _ _ _ _ fnExactDdtFind.said (fun _ h => by cases h) (by kernel_rfl) (fun _ h => by cases h) fnExactDdtFind_row_tie rfl ⟨rfl, rfl⟩ (by kernel_rfl) rfl fnExactDdtFind.plain (by kernel_rfl)
#print axioms fnExactDdtFind_card
end Go.Proofs.YtoeaeckkmpdpiaaDoor
