/-
  The law FnExactSumOpen holds for every text, as the card states it: the program opens a sealed text as the document says.
  Conditions: the row's own (the library's tables hold what the program's text lays).
-/
import Derived.Test.YtkghfdnbmidddaaDoorCards
import Derived.Test.YtkghfdnbmidddaaDoorTie
import Derived.Test.YtkghfdnbmidddaaDoorImplOpen
import Derived.Test.YtkghfdnbmidddaaDoorFrame
import Derived.WalkKit
import Derived.ProofKit
import Derived.OpenShut
import Derived.Deep.DeepHandedRow
import Derived.Lib.LaidTab
import Derived.LaidMore
import Derived.Stop.LaidErr
namespace Go.Proofs.YtkghfdnbmidddaaDoor
namespace fnExactSumOpen
open Go.ChangeShapes Go.WideShapes Go.ChangeAt Go.RowKit Go.Proofs.Palim
open Go.ChangeMaps (open_string shut_string)

theorem own : ownKnob Tryd.prog.godebug = none := by kernel_rfl
theorem laidOut : laidOutB Tryd.prog = true := by kernel_rfl
theorem gPowType : (Tryd.prog.globals[1]?).map (·.type) = some 58 := by kernel_rfl
theorem cellsTab : Tryd.prog.cellsOf 58 = 20 := by kernel_rfl
theorem cellsU64 : Tryd.prog.cellsOf 50 = 1 := by kernel_rfl

theorem pow {W : World} (h : laidMet Tryd.prog Rows.fnExactSumOpenRow.laid W) : HasPow W :=
  Lib.tabIs_of_head (rest := []) gPow gPowType Tryd.underlying58 Tryd.underlying50 cellsU64 cellsTab (laidMet.tail (laidMet.tail h))

set_option maxHeartbeats 400000 in
theorem walk (a0 : ByteArray) (w0 : a0.size ≤ maxLen) (w : World) (hp : HasPow w) (hx : HasMax w) :
    Calls Tryd.prog 5 #[.string a0] w fun e w' => e = .returned (.bool true) ∧ Below w.heap.size w w' := by
  by_cases hl : 1048576 < a0.size
  · unfold maxLen at w0
    go_enter Tryd.func5, Tryd.ntmps5
    go_wp2
    go_ret
    exact ⟨rfl, Below.refl _ _⟩
  · have hs : a0.size ≤ 1048576 := by omega
    have hlp := hp.lt
    have hlx := hx.lt
    go_enter Tryd.func5, Tryd.ntmps5
    go_wp2_with fail
    refine (specOpen_any _ _ hs).mono ?_
    rintro e w1 ⟨hb1, ⟨o, hu, rfl⟩ | ⟨hu, rfl⟩⟩
    all_goals
      have HU := Lib.hid hu
      clear hu
      go_wp2_with fail
      refine (implOpen_any _ _ hs (hp.below hb1 hlp) (hx.below hb1 hlx)).mono ?_
      rintro e w2 ⟨hb2, ⟨o', hu', rfl⟩ | ⟨hu', rfl⟩⟩
    · obtain rfl : o = o' := Option.some.inj (HU.out.symm.trans hu')
      clear hu'
      go_wp2
      go_ret
      exact ⟨rfl, hb1.trans (hb2.mono hb1.size)⟩
    · exact absurd (HU.out.symm.trans hu') (by simp)
    · exact absurd (HU.out.symm.trans hu') (by simp)
    · clear hu'
      go_wp2
      go_ret
      exact ⟨rfl, hb1.trans (hb2.mono hb1.size)⟩

theorem contract (H : Type) (enc : TypeId × Value → H) (W : World) (base : Nat) (args : Array Value) (ds gs : List (DataW H)) (before : List MemPlace)
    (hval : ∀ (j : Nat) t v, Tryd.f5.params[j]? = some t → args[j]? = some v → Value.okWide Tryd.prog W .any base t v)
    (hW : DataW.Whole enc Tryd.prog Tryd.f5.params.toList Rows.fnExactSumOpenSpec.vars false W args.toList ds gs before) (hL : laidMetH Tryd.prog Rows.fnExactSumOpenRow.laid W) (hsh : W.ShapedOpen Tryd.prog) :
    Calls Tryd.prog 5 args W fun e W' => ∃ v, e = .returned v ∧ Rows.fnExactSumOpenSpec.post enc Tryd.prog Tryd.f5 false true false false W args v W' := by
  have hW' := hW
  obtain ⟨p, q, hA0, hV, rfl, hfz, hnd⟩ := hW
  have hA : DataW.TrodAll enc Tryd.prog W 0 (fun _ => true) true Tryd.f5.params.toList args.toList ds p := hA0
  rw [Tryd.params5] at hA hval
  obtain ⟨v0, vs0, d0, ds0, p0, q0, hargs, rfl, rfl, h0, r0⟩ := trodAll_cons hA
  obtain ⟨rfl, rfl, rfl⟩ := trodAll_nil r0
  obtain rfl : args = #[v0] := by cases args; simp_all
  obtain ⟨rfl, rfl⟩ := trodVars_none hV
  obtain ⟨a0, rfl, rfl, rfl, w0⟩ := open_string Tryd.underlying9 (hval 0 9 v0 rfl rfl) h0
  clear hA0
  refine (walk a0 w0 W (pow hL) (Tryd.laysM145.s1_3 W hsh)).mono fun e W' ⟨he, hb⟩ => ?_
  subst he
  refine ⟨_, rfl, law_post laidOut ?_ ?_ (by kernel_rfl) Tryd.underlying4 hW' rfl hb⟩
  · intro t ht
    rw [Tryd.params5] at ht
    obtain rfl : t = 9 := by simpa using ht
    exact ⟨by kernel_rfl, by decide +kernel⟩
  · intro n hn; cases hn

/-- The door's own heap meets the row's condition. -/
theorem door_met (os : Os) (args : Array Value) : laidMet Tryd.prog Rows.fnExactSumOpenRow.laid ((World.doorLaid Tryd.prog 400 os).forCall (fun _ _ => 0) ⟨#[], args, []⟩).memory :=
  laidMet_of_run' 8 (by kernel_rfl) (by kernel_rfl)
theorem reads (os : Os) {H : Type} (enc : TypeId × Value → H) : ∃ places, DataW.whole enc Tryd.prog ((World.doorLaid Tryd.prog 400 os).forCall (fun _ _ => 0) ⟨#[], #[.string ByteArray.empty], []⟩).memory Tryd.f5.params.toList Rows.fnExactSumOpenSpec.vars false #[Value.string ByteArray.empty].toList 8 = some ([.lit (.string [])], [], places) :=
  ⟨[], by kernel_rfl⟩

set_option maxRecDepth 100000 in
theorem lifted (os : Os) (started : os.Started) (H : Type) (enc : TypeId × Value → H) (F : Stop.Interp) :
    ReturnsInHanded {} Tryd.checked os 5 .any ((OpenSpec.ofChange Rows.fnExactSumOpenSpec).preRow enc Tryd.prog Tryd.f5 Rows.fnExactSumOpenRow.domain false Rows.fnExactSumOpenRow.laid) (((OpenSpec.ofChange Rows.fnExactSumOpenSpec).at F).post enc Tryd.prog Tryd.f5 false true false false) := by
  obtain ⟨places, hx⟩ := reads os enc
  refine returnsInHanded_of_row (C := Tryd.checked) (s := OpenSpec.ofChange Rows.fnExactSumOpenSpec) own started (by kernel_rfl) Tryd.func5
    (witness_row_at (enc := enc) (C := Tryd.checked) false (World.doorLaid Tryd.prog 400 os) #[.string ByteArray.empty] rfl (by kernel_rfl) (by kernel_rfl) (by kernel_rfl)
      (OpenSpec.preRow_of_cond 8 hx (by kernel_rfl) (fun k hk => by cases hk) (by kernel_rfl) (door_met os _))) ?_
  intro W base args ds gs before hval hW _ _ _ hL hsh _
  exact contract H enc W base args ds gs before hval hW hL hsh

theorem said : Rows.FnExactSumOpenSaid :=
  OpenClaim.holds_of_cond 5 Tryd.f5 rfl rfl rfl rfl rfl rfl rfl ⟨rfl, rfl, rfl, rfl, rfl⟩ rfl rfl rfl rfl rfl (by kernel_rfl) Tryd.func5 (by kernel_rfl)
    (of_decide_eq_true (by kernel_rfl)) (by unfold Func.isWrapper; first | (rw [if_pos (by decide +kernel)]; kernel_rfl) | (rw [if_neg (by decide +kernel)]; exact ⟨rfl, rfl⟩))
    (fun os started H enc _ F => by rw [OpenClaim.pre_eq_preRow]; exact lifted os started H enc F)

theorem plain (f : FuncId) (fn : Func) (hf : Tryd.pinned.checked.prog.funcNamed "loop.example/palim/laws.FnExactSumOpen" = some f) (hfn : Tryd.pinned.checked.prog.funcs[f]? = some fn) :
    false = Tryd.pinned.checked.prog.looks [] ∧ ∀ (j : Nat) t, fn.params[j]? = some t → Tryd.pinned.checked.prog.wantsStandIn t = false := by
  obtain rfl : f = 5 := Option.some.inj ((show Tryd.prog.funcNamed "loop.example/palim/laws.FnExactSumOpen" = some 5 by kernel_rfl).symm.trans hf) |>.symm
  obtain rfl : fn = Tryd.f5 := (Option.some.inj (Tryd.func5.symm.trans hfn)).symm
  refine ⟨by kernel_rfl, fun j t ht => ?_⟩
  rw [Tryd.params5] at ht
  obtain rfl : t = 9 := by simpa using Array.mem_of_getElem? ht
  exact (show Tryd.prog.wantsStandIn 9 = false by kernel_rfl)
end fnExactSumOpen

/-- THE CARD. -/
theorem fnExactSumOpen_card : Rows.FnExactSumOpenCardSaid :=
  Claim7.holds_tied_plain_at .later [] _ _ _ _ fnExactSumOpen.said (fun _ h => by cases h) (by kernel_rfl) (fun _ h => by cases h) fnExactSumOpen_row_tie rfl ⟨rfl, rfl⟩ (by kernel_rfl) rfl fnExactSumOpen.plain (by kernel_rfl)
#print axioms fnExactSumOpen_card
end Go.Proofs.YtkghfdnbmidddaaDoor
