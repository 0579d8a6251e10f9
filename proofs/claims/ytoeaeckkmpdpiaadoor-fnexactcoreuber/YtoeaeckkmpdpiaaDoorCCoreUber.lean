/-
  At every number and pointer impl.CoreUber answers as its model: the law FnExactCoreUber returns true, as the card states it.
  Conditions: the row's own (the library's tables and variables start as the program's text lays them; the card ties them).
-/
import Derived.Test.YtoeaeckkmpdpiaaDoorCards
import Derived.Test.YtoeaeckkmpdpiaaDoorTie
import Derived.Test.YtoeaeckkmpdpiaaDoorLCoreUber
import Derived.Test.YtoeaeckkmpdpiaaDoorPtrArg
import Derived.Test.YtoeaeckkmpdpiaaDoorFrame
import Derived.WalkKit
import Derived.ProofKit
import Derived.OpenShut
import Derived.Deep.DeepHandedRow
import Derived.Lib.LaidTab
import Derived.LaidMore
import Derived.Stop.LaidErr
set_option maxRecDepth 100000
namespace Go.Proofs.YtoeaeckkmpdpiaaDoor
namespace fnExactCoreUber
open Go.ChangeShapes Go.WideShapes Go.ChangeAt Go.RowKit Go.Proofs.Palim

theorem own : ownKnob Tryd.prog.godebug = none := by kernel_rfl
theorem laidOut : laidOutB Tryd.prog = true := by kernel_rfl
theorem gPowType : (Tryd.prog.globals[5]?).map (·.type) = some 168 := by kernel_rfl
theorem cellsTab : Tryd.prog.cellsOf 168 = 20 := by kernel_rfl
theorem cellsU64 : Tryd.prog.cellsOf 143 = 1 := by kernel_rfl
theorem pow {W : World} (h : laidMet Tryd.prog Rows.fnExactCoreUberRow.laid W) : HasPow W :=
  Lib.tabIs_of_head (rest := []) gPow gPowType Tryd.underlying168 Tryd.underlying143 cellsU64 cellsTab (laidMet.tail (laidMet.tail h))

theorem contract (H : Type) (enc : TypeId × Value → H) (W : World) (base : Nat) (args : Array Value) (ds gs : List (DataW H)) (before : List MemPlace)
    (hval : ∀ (j : Nat) t v, Tryd.f7.params[j]? = some t → args[j]? = some v → Value.okWide Tryd.prog W .any base t v)
    (hW : DataW.Whole enc Tryd.prog Tryd.f7.params.toList Rows.fnExactCoreUberSpec.vars false W args.toList ds gs before) (hL : laidMetH Tryd.prog Rows.fnExactCoreUberRow.laid W) (hsh : W.ShapedOpen Tryd.prog) :
    Calls Tryd.prog 7 args W fun e W' => ∃ v, e = .returned v ∧ Rows.fnExactCoreUberSpec.post enc Tryd.prog Tryd.f7 false true false false W args v W' := by
  have hW' := hW
  obtain ⟨p, q, hA0, hV, rfl, hfz, hnd⟩ := hW
  have hA : DataW.TrodAll enc Tryd.prog W 0 (fun _ => true) true Tryd.f7.params.toList args.toList ds p := hA0
  rw [Tryd.params7] at hA hval
  obtain ⟨x0, vs0, d0, ds0, p0, q0, hargs, rfl, rfl, h0, r0⟩ := trodAll_cons hA
  obtain ⟨x1, vs1, d1, ds1, p1, q1, rfl, rfl, rfl, h1, r1⟩ := trodAll_cons r0
  obtain ⟨rfl, rfl, rfl⟩ := trodAll_nil r1
  obtain rfl : args = #[x0, x1] := by cases args; simp_all
  obtain ⟨rfl, rfl⟩ := trodVars_none hV
  obtain ⟨a, rfl, rfl, rfl, wa⟩ := open_int Tryd.underlying3 (hval 0 3 x0 rfl rfl) h0
  obtain ⟨p, rfl, hp⟩ := ptr_of (hval 1 48 x1 rfl rfl) h1
  clear hA0
  refine (lawCoreUber a p W (bounds_i64 wa) (pow hL)).mono fun e W' ⟨he, hb⟩ => ?_
  subst he
  refine ⟨_, rfl, law_post laidOut ?_ (fun n hn => by cases hn) (by kernel_rfl) Tryd.underlying4 hW' rfl hb⟩
  intro t ht
  rw [Tryd.params7] at ht
  rcases (by simpa using ht : t = 3 ∨ t = 48) with rfl | rfl
  · exact ⟨by kernel_rfl, by decide +kernel⟩
  · exact ⟨by kernel_rfl, by decide +kernel⟩

/-- The door's own heap meets the row's condition. -/
theorem door_met (os : Os) (args : Array Value) : laidMet Tryd.prog Rows.fnExactCoreUberRow.laid ((World.doorLaid Tryd.prog 400 os).forCall (fun _ _ => 0) ⟨#[], args, []⟩).memory :=
  laidMet_of_run' 8 (by kernel_rfl) (by kernel_rfl)

theorem lifted (os : Os) (started : os.Started) (H : Type) (enc : TypeId × Value → H) (F : Stop.Interp) :
    ReturnsInHanded {} Tryd.checked os 7 .any ((OpenSpec.ofChange Rows.fnExactCoreUberSpec).preRow enc Tryd.prog Tryd.f7 Rows.fnExactCoreUberRow.domain false Rows.fnExactCoreUberRow.laid) (((OpenSpec.ofChange Rows.fnExactCoreUberSpec).at F).post enc Tryd.prog Tryd.f7 false true false false) := by
  refine returnsInHanded_of_row (C := Tryd.checked) (s := OpenSpec.ofChange Rows.fnExactCoreUberSpec) own started (by kernel_rfl) Tryd.func7
    (witness_row_at (enc := enc) (C := Tryd.checked) false (World.doorLaid Tryd.prog 400 os) #[.int .i64 0, .agg #[.int .i64 0, .int .i64 0, .int .i64 0]] rfl (by kernel_rfl) (by kernel_rfl) (by kernel_rfl)
      (OpenSpec.preRow_of_B rfl 8 (by kernel_rfl) (by kernel_rfl) (door_met os _))) ?_
  intro W base args ds gs before hval hW _ _ _ hL hsh _
  exact contract H enc W base args ds gs before hval hW hL hsh

theorem said : Rows.FnExactCoreUberSaid :=
  OpenClaim.holds_of_cond 7 Tryd.f7 rfl rfl rfl rfl rfl rfl rfl ⟨rfl, rfl, rfl, rfl, rfl⟩ rfl rfl rfl rfl rfl (by kernel_rfl) Tryd.func7 (by kernel_rfl)
    (of_decide_eq_true (by kernel_rfl)) (by unfold Func.isWrapper; first | (rw [if_pos (by decide +kernel)]; kernel_rfl) | (rw [if_neg (by decide +kernel)]; exact ⟨rfl, rfl⟩))
    (fun os started H enc _ F => by rw [OpenClaim.pre_eq_preRow]; exact lifted os started H enc F)

theorem plain (f : FuncId) (fn : Func) (hf : Tryd.pinned.checked.prog.funcNamed "loop.example/palim/laws.FnExactCoreUber" = some f) (hfn : Tryd.pinned.checked.prog.funcs[f]? = some fn) :
    true = Tryd.pinned.checked.prog.looks [] ∧ ∀ (j : Nat) t, fn.params[j]? = some t → Tryd.pinned.checked.prog.wantsStandIn t = false := by
  obtain rfl : f = 7 := Option.some.inj ((show Tryd.prog.funcNamed "loop.example/palim/laws.FnExactCoreUber" = some 7 by kernel_rfl).symm.trans hf) |>.symm
  obtain rfl : fn = Tryd.f7 := (Option.some.inj (Tryd.func7.symm.trans hfn)).symm
  refine ⟨by kernel_rfl, fun j t ht => ?_⟩
  rw [Tryd.params7] at ht
  rcases (by simpa using Array.mem_of_getElem? ht : t = 3 ∨ t = 48) with rfl | rfl
  · exact (show Tryd.prog.wantsStandIn 3 = false by kernel_rfl)
  · exact (show Tryd.prog.wantsStandIn 48 = false by kernel_rfl)
end fnExactCoreUber

/-- THE CARD. -/
theorem fnExactCoreUber_card : Rows.FnExactCoreUberCardSaid :=
  Claim7.holds_tied_plain_at .later [] _ _ _ _ fnExactCoreUber.said (fun _ h => by cases h) (by kernel_rfl) (fun _ h => by cases h) fnExactCoreUber_row_tie rfl ⟨rfl, rfl⟩ (by kernel_rfl) rfl fnExactCoreUber.plain (by kernel_rfl)
#print axioms fnExactCoreUber_card
end Go.Proofs.YtoeaeckkmpdpiaaDoor
