/-
  At every disk and pointer impl.BlkHeal answers as its model, writes into no argument, and its answer owns its memory: the law FnExactBlkHeal returns true, as the card states it.
  Conditions: the row's own (the two error variables start as the program's text lays them; the card ties them).
-/
import Derived.Test.YtfacbjldpenpjaaDoorCards
import Derived.Test.YtfacbjldpenpjaaDoorTie
import Derived.Test.YtfacbjldpenpjaaDoorLBlkHeal
import Derived.Test.YtfacbjldpenpjaaDoorPtrArg
import Derived.Test.YtfacbjldpenpjaaDoorFrame2
import Derived.WalkKit
import Derived.ProofKit
import Derived.OpenShut
import Derived.Deep.DeepHandedRow
import Derived.Lib.LaidTab
import Derived.LaidMore
import Derived.Stop.LaidErr
set_option maxRecDepth 100000
namespace Go.Proofs.YtfacbjldpenpjaaDoor
namespace fnExactBlkHeal
open Go.ChangeShapes Go.WideShapes Go.ChangeAt Go.RowKit Go.Proofs.Palim

theorem own : ownKnob Tryd.prog.godebug = none := by kernel_rfl
theorem laidOut : laidOutB Tryd.prog = true := by kernel_rfl

theorem contract (H : Type) (enc : TypeId × Value → H) (W : World) (base : Nat) (args : Array Value) (ds gs : List (DataW H)) (before : List MemPlace)
    (hval : ∀ (j : Nat) t v, Tryd.f8.params[j]? = some t → args[j]? = some v → Value.okWide Tryd.prog W .any base t v)
    (hW : DataW.Whole enc Tryd.prog Tryd.f8.params.toList Rows.fnExactBlkHealSpec.vars false W args.toList ds gs before) (hL : laidMetH Tryd.prog Rows.fnExactBlkHealRow.laid W) :
    Calls Tryd.prog 8 args W fun e W' => ∃ v, e = .returned v ∧ Rows.fnExactBlkHealSpec.post enc Tryd.prog Tryd.f8 false true false false W args v W' := by
  have hW' := hW
  obtain ⟨p, q, hA0, hV, rfl, hfz, hnd⟩ := hW
  have hA : DataW.TrodAll enc Tryd.prog W 0 (fun _ => true) true Tryd.f8.params.toList args.toList ds p := hA0
  rw [Tryd.params8] at hA hval
  obtain ⟨x0, vs0, d0, ds0, p0, q0, hargs, rfl, rfl, h0, r0⟩ := trodAll_cons hA
  obtain ⟨x1, vs1, d1, ds1, p1, q1, rfl, rfl, rfl, h1, r1⟩ := trodAll_cons r0
  obtain ⟨rfl, rfl, rfl⟩ := trodAll_nil r1
  obtain rfl : args = #[x0, x1] := by cases args; simp_all
  obtain ⟨a0, a1, hh⟩ := held_of_laid (W := W) hL
  obtain ⟨rfl, rfl⟩ := DataW.TrodVars.unique hV (hh.reads _)
  obtain ⟨v0, v1, vl, d, rfl, hd, hz0, hz1, hzl⟩ := disk_of (hval 0 52 x0 rfl rfl) h0
  obtain ⟨p, rfl, hp⟩ := ptr_of (hval 1 42 x1 rfl rfl) h1
  clear hA0
  refine (lawBlkHeal v0 v1 vl d p a0 a1 W hd hh.errs hz0 hz1 hzl).mono fun e W' ⟨he, hb⟩ => ?_
  subst he
  refine ⟨_, rfl, law_post_held laidOut ?_ (fun sp q hq => hh.stay hb sp _ q hq) (by kernel_rfl) Tryd.underlying4 hW' rfl hb⟩
  intro t ht
  rw [Tryd.params8] at ht
  rcases (by simpa using ht : t = 52 ∨ t = 42) with rfl | rfl
  · exact ⟨by kernel_rfl, by decide +kernel⟩
  · exact ⟨by kernel_rfl, by decide +kernel⟩

/-- The door's own heap meets the row's condition. -/
theorem door_met (os : Os) (args : Array Value) : laidMet Tryd.prog Rows.fnExactBlkHealRow.laid ((World.doorLaid Tryd.prog 400 os).forCall (fun _ _ => 0) ⟨#[], args, []⟩).memory :=
  laidMet_of_run' 8 (by kernel_rfl) (by kernel_rfl)

theorem lifted (os : Os) (started : os.Started) (H : Type) (enc : TypeId × Value → H) (F : Stop.Interp) :
    ReturnsInHanded {} Tryd.checked os 8 .any ((OpenSpec.ofChange Rows.fnExactBlkHealSpec).preRow enc Tryd.prog Tryd.f8 Rows.fnExactBlkHealRow.domain false Rows.fnExactBlkHealRow.laid) (((OpenSpec.ofChange Rows.fnExactBlkHealSpec).at F).post enc Tryd.prog Tryd.f8 false true false false) := by
  refine returnsInHanded_of_row (C := Tryd.checked) (s := OpenSpec.ofChange Rows.fnExactBlkHealSpec) own started (by kernel_rfl) Tryd.func8
    (witness_row_at (enc := enc) (C := Tryd.checked) false (World.doorLaid Tryd.prog 400 os) #[.agg #[.slice none 0 0, .slice none 0 0, .slice none 0 0], .agg #[.int .i64 0, .int .i64 0, .int .i64 0]] rfl (by kernel_rfl) (by kernel_rfl) (by kernel_rfl)
      (OpenSpec.preRow_of_B rfl 8 (by kernel_rfl) (by kernel_rfl) (door_met os _))) ?_
  intro W base args ds gs before hval hW _ _ _ hL hsh _
  exact contract H enc W base args ds gs before hval hW hL

theorem said : Rows.FnExactBlkHealSaid :=
  OpenClaim.holds_of_cond 8 Tryd.f8 rfl rfl rfl rfl rfl rfl rfl ⟨rfl, rfl, rfl, rfl, rfl⟩ rfl rfl rfl rfl rfl (by kernel_rfl) Tryd.func8 (by kernel_rfl)
    (of_decide_eq_true (by kernel_rfl)) (by unfold Func.isWrapper; first | (rw [if_pos (by decide +kernel)]; kernel_rfl) | (rw [if_neg (by decide +kernel)]; exact ⟨rfl, rfl⟩))
    (fun os started H enc _ F => by rw [OpenClaim.pre_eq_preRow]; exact lifted os started H enc F)

theorem plain (f : FuncId) (fn : Func) (hf : Tryd.pinned.checked.prog.funcNamed "loop.example/palim/laws.FnExactBlkHeal" = some f) (hfn : Tryd.pinned.checked.prog.funcs[f]? = some fn) :
    true = Tryd.pinned.checked.prog.looks [] ∧ ∀ (j : Nat) t, fn.params[j]? = some t → Tryd.pinned.checked.prog.wantsStandIn t = false := by
  obtain rfl : f = 8 := Option.some.inj ((show Tryd.prog.funcNamed "loop.example/palim/laws.FnExactBlkHeal" = some 8 by kernel_rfl).symm.trans hf) |>.symm
  obtain rfl : fn = Tryd.f8 := (Option.some.inj (Tryd.func8.symm.trans hfn)).symm
  refine ⟨by kernel_rfl, fun j t ht => ?_⟩
  rw [Tryd.params8] at ht
  rcases (by simpa using Array.mem_of_getElem? ht : t = 52 ∨ t = 42) with rfl | rfl
  · exact (show Tryd.prog.wantsStandIn 52 = false by kernel_rfl)
  · exact (show Tryd.prog.wantsStandIn 42 = false by kernel_rfl)
end fnExactBlkHeal

/-- THE CARD. -/
theorem fnExactBlkHeal_card : Rows.FnExactBlkHealCardSaid :=
  Claim7.holds_tied_plain_at .later [] _ _ _ _ fnExactBlkHeal.said (fun _ h => by cases h) (by kernel_rfl) (fun _ h => by cases h) fnExactBlkHeal_row_tie rfl ⟨rfl, rfl⟩ (by kernel_rfl) rfl fnExactBlkHeal.plain (by kernel_rfl)
#print axioms fnExactBlkHeal_card
end Go.Proofs.YtfacbjldpenpjaaDoor
