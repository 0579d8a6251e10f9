/-
  At every core and place impl.RoomReach answers as its model, writes into no argument, and its answer owns its memory: the law FnExactRoomReach returns true, as the card states it.
  Conditions: the row's own (the library's tables and variables start as the program's text lays them; the card ties them).
-/
import Derived.Test.YtglgdbnhnchabaaGreatDoorCards
import Derived.Test.YtglgdbnhnchabaaGreatDoorTie
import Derived.Test.YtglgdbnhnchabaaGreatDoorLReach
import Derived.Test.YtglgdbnhnchabaaGreatDoorCoreArg
import Derived.Test.YtglgdbnhnchabaaGreatDoorFrame
import Derived.WalkKit
import Derived.ProofKit
import Derived.OpenShut
import Derived.Deep.DeepHandedRow
import Derived.Lib.LaidTab
import Derived.LaidMore
import Derived.Stop.LaidErr
set_option maxRecDepth 100000
namespace Go.Proofs.YtglgdbnhnchabaaGreatDoor
namespace fnExactRoomReach
open Go.ChangeShapes Go.WideShapes Go.ChangeAt Go.RowKit Go.Proofs.Palim

theorem own : ownKnob Tryz.prog.godebug = none := by kernel_rfl
theorem laidOut : laidOutB Tryz.prog = true := by kernel_rfl
theorem gBru : Tryz.prog.globalNamed "math/bits.deBruijn64tab" = some 0 := by kernel_rfl
theorem gBruType : (Tryz.prog.globals[0]?).map (·.type) = some 114 := by kernel_rfl
theorem cellsTab : Tryz.prog.cellsOf 114 = 64 := by kernel_rfl
theorem cellsU8 : Tryz.prog.cellsOf 5 = 1 := by kernel_rfl
theorem bru {W : World} (h : laidMet Tryz.prog Rows.fnExactRoomReachRow.laid W) : HasBru W := by
  have ht : Lib.TabIs Tryz.prog W "math/bits.deBruijn64tab" .u8 (Lib.deBruijn64tab.map Int.ofNat) := Lib.tabIs_of_head (rest := []) gBru gBruType Tryz.underlying114 Tryz.underlying5 cellsU8 cellsTab h
  intro j hj
  have hj2 : j < (Lib.deBruijn64tab.map Int.ofNat).length := by rw [List.length_map]; exact hj
  have hc := ht.cell gBru j hj2
  have e : (Lib.deBruijn64tab.map Int.ofNat).getD j 0 = ((Lib.deBruijn64tab.getD j 0 : Nat) : Int) := by
    rw [List.getD_eq_getElem?_getD, List.getElem?_map, List.getD_eq_getElem?_getD]
    cases Lib.deBruijn64tab[j]? <;> rfl
  rw [e] at hc
  exact hc

theorem contract (H : Type) (enc : TypeId × Value → H) (W : World) (base : Nat) (args : Array Value) (ds gs : List (DataW H)) (before : List MemPlace)
    (hval : ∀ (j : Nat) t v, Tryz.f4.params[j]? = some t → args[j]? = some v → Value.okWide Tryz.prog W .any base t v)
    (hW : DataW.Whole enc Tryz.prog Tryz.f4.params.toList Rows.fnExactRoomReachSpec.vars false W args.toList ds gs before) (hL : laidMetH Tryz.prog Rows.fnExactRoomReachRow.laid W) (_ : W.ShapedOpen Tryz.prog) :
    Calls Tryz.prog 4 args W fun e W' => ∃ v, e = .returned v ∧ Rows.fnExactRoomReachSpec.post enc Tryz.prog Tryz.f4 false true false false W args v W' := by
  have hW' := hW
  obtain ⟨p, q, hA0, hV, rfl, hfz, hnd⟩ := hW
  have hA : DataW.TrodAll enc Tryz.prog W 0 (fun _ => true) true Tryz.f4.params.toList args.toList ds p := hA0
  rw [Tryz.params4] at hA hval
  obtain ⟨x0, vs0, d0, ds0, p0, q0, hargs, rfl, rfl, h0, r0⟩ := trodAll_cons hA
  obtain ⟨x1, vs1, d1, ds1, p1, q1, rfl, rfl, rfl, h1, r1⟩ := trodAll_cons r0
  obtain ⟨rfl, rfl, rfl⟩ := trodAll_nil r1
  obtain rfl : args = #[x0, x1] := by cases args; simp_all
  obtain ⟨rfl, rfl⟩ := trodVars_none hV
  obtain ⟨vs, vd, vp, vi, c, rfl, hd, hf⟩ := core_of (hval 0 27 x0 rfl rfl) h0
  obtain ⟨n, rfl, rfl, rfl, _hn⟩ := open_int Tryz.underlying3 (hval 1 3 x1 rfl rfl) h1
  clear hA0
  refine (lawRoomReach vs vd vp vi c n W hd hf (bru hL)).mono fun e W' ⟨he, hb⟩ => ?_
  subst he
  refine ⟨_, rfl, law_post laidOut ?_ (fun n hn => by cases hn) (by kernel_rfl) Tryz.underlying4 hW' rfl hb⟩
  intro t ht
  rw [Tryz.params4] at ht
  rcases (by simpa using ht : t = 27 ∨ t = 3) with rfl | rfl
  · exact ⟨by kernel_rfl, by decide +kernel⟩
  · exact ⟨by kernel_rfl, by decide +kernel⟩

/-- The door's own heap meets the row's condition. -/
theorem door_met (os : Os) (args : Array Value) : laidMet Tryz.prog Rows.fnExactRoomReachRow.laid ((World.doorLaid Tryz.prog 400 os).forCall (fun _ _ => 0) ⟨#[], args, []⟩).memory :=
  laidMet_of_run' 8 (by kernel_rfl) (by kernel_rfl)

theorem lifted (os : Os) (started : os.Started) (H : Type) (enc : TypeId × Value → H) (F : Stop.Interp) :
    ReturnsInHanded {} Tryz.checked os 4 .any ((OpenSpec.ofChange Rows.fnExactRoomReachSpec).preRow enc Tryz.prog Tryz.f4 Rows.fnExactRoomReachRow.domain false Rows.fnExactRoomReachRow.laid) (((OpenSpec.ofChange Rows.fnExactRoomReachSpec).at F).post enc Tryz.prog Tryz.f4 false true false false) := by
  refine returnsInHanded_of_row (C := Tryz.checked) (s := OpenSpec.ofChange Rows.fnExactRoomReachSpec) own started (by kernel_rfl) Tryz.func4
    (witness_row_at (enc := enc) (C := Tryz.checked) false (World.doorLaid Tryz.prog 400 os) #[.agg #[.int .i64 0, .slice none 0 0, .slice none 0 0, .slice none 0 0, .bool false, .slice none 0 0, .int .i64 0], .int .i64 0] rfl (by kernel_rfl) (by kernel_rfl) (by kernel_rfl)
      (OpenSpec.preRow_of_B rfl 8 (by kernel_rfl) (by kernel_rfl) (door_met os _))) ?_
  intro W base args ds gs before hval hW _ _ _ hL hsh _
  exact contract H enc W base args ds gs before hval hW hL hsh

theorem said : Rows.FnExactRoomReachSaid :=
  OpenClaim.holds_of_cond 4 Tryz.f4 rfl rfl rfl rfl rfl rfl rfl ⟨rfl, rfl, rfl, rfl, rfl⟩ rfl rfl rfl rfl rfl (by kernel_rfl) Tryz.func4 (by kernel_rfl)
    (of_decide_eq_true (by kernel_rfl)) (by unfold Func.isWrapper; first | (rw [if_pos (by decide +kernel)]; kernel_rfl) | (rw [if_neg (by decide +kernel)]; exact ⟨rfl, rfl⟩))
    (fun os started H enc _ F => by rw [OpenClaim.pre_eq_preRow]; exact lifted os started H enc F)

theorem plain (f : FuncId) (fn : Func) (hf : Tryz.pinned.checked.prog.funcNamed "loop.example/palim/laws.FnExactRoomReach" = some f) (hfn : Tryz.pinned.checked.prog.funcs[f]? = some fn) :
    false = Tryz.pinned.checked.prog.looks [] ∧ ∀ (j : Nat) t, fn.params[j]? = some t → Tryz.pinned.checked.prog.wantsStandIn t = false := by
  obtain rfl : f = 4 := Option.some.inj ((show Tryz.prog.funcNamed "loop.example/palim/laws.FnExactRoomReach" = some 4 by kernel_rfl).symm.trans hf) |>.symm
  obtain rfl : fn = Tryz.f4 := (Option.some.inj (Tryz.func4.symm.trans hfn)).symm
  refine ⟨by kernel_rfl, fun j t ht => ?_⟩
  rw [Tryz.params4] at ht
  rcases (by simpa using Array.mem_of_getElem? ht : t = 27 ∨ t = 3) with rfl | rfl
  · exact (show Tryz.prog.wantsStandIn 27 = false by kernel_rfl)
  · exact (show Tryz.prog.wantsStandIn 3 = false by kernel_rfl)
end fnExactRoomReach

/-- THE CARD. -/
theorem fnExactRoomReach_card : Rows.FnExactRoomReachCardSaid :=
  Claim7.holds_tied_plain_at .later [] _ _ _ _ fnExactRoomReach.said (fun _ h => by cases h) (by kernel_rfl) (fun _ h => by cases h) fnExactRoomReach_row_tie rfl ⟨rfl, rfl⟩ (by kernel_rfl) rfl fnExactRoomReach.plain (by kernel_rfl)
#print axioms fnExactRoomReach_card
end Go.Proofs.YtglgdbnhnchabaaGreatDoor
