/-
  The law FnExactSumUnhex holds for every text, as the card states it: the program reads bytes in hexadecimals as the document says.
  Conditions: the row's own (the table of digits holds what the program's text lays).
-/
import Derived.Test.YtkghfdnbmidddaaDoorCards
import Derived.Test.YtkghfdnbmidddaaDoorTie
import Derived.Test.YtkghfdnbmidddaaDoorSpecUnhex
import Derived.Test.YtkghfdnbmidddaaDoorFrame
import Derived.WalkKit
import Derived.ProofKit
import Derived.OpenShut
import Derived.Deep.DeepHandedRow
import Derived.Lib.LaidTab
import Derived.LaidMore
namespace Go.Proofs.YtkghfdnbmidddaaDoor
namespace fnExactSumUnhex
open Go.ChangeShapes Go.WideShapes Go.ChangeAt Go.RowKit Go.Proofs.Palim
open Go.ChangeMaps (open_string shut_string)

theorem own : ownKnob Tryd.prog.godebug = none := by kernel_rfl
theorem laidOut : laidOutB Tryd.prog = true := by kernel_rfl
theorem gTab : Tryd.prog.globalNamed "loop.example/palim/impl.sumDigits" = some 0 := by kernel_rfl
theorem gTabType : (Tryd.prog.globals[0]?).map (·.type) = some 36 := by kernel_rfl
theorem cellsTab : Tryd.prog.cellsOf 36 = 16 := by kernel_rfl
theorem cellsU8 : Tryd.prog.cellsOf 5 = 1 := by kernel_rfl

theorem table {W : World} (h : laidMetH Tryd.prog Rows.fnExactSumUnhexRow.laid W) : Lib.TabIs Tryd.prog W "loop.example/palim/impl.sumDigits" .u8 [48, 49, 50, 51, 52, 53, 54, 55, 56, 57, 97, 98, 99, 100, 101, 102] :=
  Lib.tabIs_of_head (rest := []) gTab gTabType Tryd.underlying36 Tryd.underlying5 cellsU8 cellsTab h
theorem digits {W : World} (h : laidMetH Tryd.prog Rows.fnExactSumUnhexRow.laid W) : HasTab W := by
  have h1 := table h
  unfold Lib.TabIs World.var? at h1
  rw [gTab] at h1
  simp only [Option.bind_some] at h1
  split at h1
  · rename_i cs t fr hh
    exact ⟨t, fr, by rw [hh, Option.some.inj h1]; rfl⟩
  · cases h1

set_option maxHeartbeats 400000 in
theorem walk (a0 : ByteArray) (w0 : a0.size ≤ maxLen) (w : World) (hg : HasTab w) :
    Calls Tryd.prog 7 #[.string a0] w fun e w' => e = .returned (.bool true) ∧ Below w.heap.size w w' := by
  by_cases hl : 1048576 < a0.size
  · unfold maxLen at w0
    go_enter Tryd.func7, Tryd.ntmps7
    go_wp2
    go_ret
    exact ⟨rfl, Below.refl _ _⟩
  · have hs : a0.size ≤ 1048576 := by omega
    have hlg := hg.lt
    go_enter Tryd.func7, Tryd.ntmps7
    go_wp2_with fail
    refine (specUnhex_any _ _ hs).mono ?_
    rintro e w1 ⟨hb1, ⟨o, hu, rfl⟩ | ⟨hu, rfl⟩⟩
    all_goals
      have HU := Lib.hid hu
      clear hu
      go_wp2_with fail
      refine (implUnhex_any _ _ hs (hg.below hb1 hlg)).mono ?_
      rintro e w2 ⟨hb2, ⟨o', hu', rfl⟩ | ⟨hu', rfl⟩⟩
    · obtain rfl : o = o' := Option.some.inj (HU.out.symm.trans hu')
      clear hu'
      go_wp2
      go_ret
      exact ⟨rfl, hb1.trans (hb2.mono hb1.size)⟩
    · exact absurd (HU.out.symm.trans hu') (by simp)
    · exact absurd (HU.out.symm.trans hu') (by simp)
    · clear hu'
      go_wp2
      go_ret
      exact ⟨rfl, hb1.trans (hb2.mono hb1.size)⟩

theorem contract (H : Type) (enc : TypeId × Value → H) (W : World) (base : Nat) (args : Array Value) (ds gs : List (DataW H)) (before : List MemPlace)
    (hval : ∀ (j : Nat) t v, Tryd.f7.params[j]? = some t → args[j]? = some v → Value.okWide Tryd.prog W .any base t v)
    (hW : DataW.Whole enc Tryd.prog Tryd.f7.params.toList Rows.fnExactSumUnhexSpec.vars false W args.toList ds gs before) (hL : laidMetH Tryd.prog Rows.fnExactSumUnhexRow.laid W) :
    Calls Tryd.prog 7 args W fun e W' => ∃ v, e = .returned v ∧ Rows.fnExactSumUnhexSpec.post enc Tryd.prog Tryd.f7 false true false false W args v W' := by
  have hW' := hW
  obtain ⟨p, q, hA0, hV, rfl, hfz, hnd⟩ := hW
  have hA : DataW.TrodAll enc Tryd.prog W 0 (fun _ => true) true Tryd.f7.params.toList args.toList ds p := hA0
  rw [Tryd.params7] at hA hval
  obtain ⟨v0, vs0, d0, ds0, p0, q0, hargs, rfl, rfl, h0, r0⟩ := trodAll_cons hA
  obtain ⟨rfl, rfl, rfl⟩ := trodAll_nil r0
  obtain rfl : args = #[v0] := by cases args; simp_all
  obtain ⟨g1, t1, cs1, fu1, e1, p1, rfl, -⟩ := trodVars_one hV
  obtain ⟨a0, rfl, rfl, rfl, w0⟩ := open_string Tryd.underlying9 (hval 0 9 v0 rfl rfl) h0
  clear hA0
  refine (walk a0 w0 W (digits hL)).mono fun e W' ⟨he, hb⟩ => ?_
  subst he
  refine ⟨_, rfl, law_post laidOut ?_ ?_ (by kernel_rfl) Tryd.underlying4 hW' rfl hb⟩
  · intro t ht
    rw [Tryd.params7] at ht
    obtain rfl : t = 9 := by simpa using ht
    exact ⟨by kernel_rfl, by decide +kernel⟩
  · intro n hn g t hg ht
    obtain rfl : n = "loop.example/palim/impl.sumDigits" := by simpa [Rows.fnExactSumUnhexSpec] using hn
    obtain rfl := Option.some.inj (gTab.symm.trans hg)
    obtain rfl := Option.some.inj (gTabType.symm.trans ht)
    exact ⟨by kernel_rfl, by decide +kernel⟩

/-- The door's own heap meets the row's condition. -/
theorem door_met (os : Os) (args : Array Value) : laidMet Tryd.prog Rows.fnExactSumUnhexRow.laid ((World.doorLaid Tryd.prog 400 os).forCall (fun _ _ => 0) ⟨#[], args, []⟩).memory :=
  laidMet_of_run' 8 (by kernel_rfl) (by kernel_rfl)
theorem reads (os : Os) {H : Type} (enc : TypeId × Value → H) : ∃ d places, DataW.whole enc Tryd.prog ((World.doorLaid Tryd.prog 400 os).forCall (fun _ _ => 0) ⟨#[], #[.string ByteArray.empty], []⟩).memory Tryd.f7.params.toList Rows.fnExactSumUnhexSpec.vars false #[Value.string ByteArray.empty].toList 8 = some ([.lit (.string [])], [d], places) :=
  ⟨Rows.laid_loop_example_palim_impl_sumDigits, MemPlace.row ⟨0, 0, none⟩ 16, by kernel_rfl⟩

set_option maxRecDepth 100000 in
theorem lifted (os : Os) (started : os.Started) (H : Type) (enc : TypeId × Value → H) (F : Stop.Interp) :
    ReturnsInHanded {} Tryd.checked os 7 .any ((OpenSpec.ofChange Rows.fnExactSumUnhexSpec).preRow enc Tryd.prog Tryd.f7 Rows.fnExactSumUnhexRow.domain false Rows.fnExactSumUnhexRow.laid) (((OpenSpec.ofChange Rows.fnExactSumUnhexSpec).at F).post enc Tryd.prog Tryd.f7 false true false false) := by
  obtain ⟨d, places, hx⟩ := reads os enc
  refine returnsInHanded_of_row (C := Tryd.checked) (s := OpenSpec.ofChange Rows.fnExactSumUnhexSpec) own started (by kernel_rfl) Tryd.func7
    (witness_row_at (enc := enc) (C := Tryd.checked) false (World.doorLaid Tryd.prog 400 os) #[.string ByteArray.empty] rfl (by kernel_rfl) (by kernel_rfl) (by kernel_rfl)
      (OpenSpec.preRow_of_cond 8 hx (by kernel_rfl) (fun k hk => by cases hk) (by kernel_rfl) (door_met os _))) ?_
  intro W base args ds gs before hval hW _ _ _ hL _ _
  exact contract H enc W base args ds gs before hval hW hL

theorem said : Rows.FnExactSumUnhexSaid :=
  OpenClaim.holds_of_cond 7 Tryd.f7 rfl rfl rfl rfl rfl rfl rfl ⟨rfl, rfl, rfl, rfl, rfl⟩ rfl rfl rfl rfl rfl (by kernel_rfl) Tryd.func7 (by kernel_rfl)
    (of_decide_eq_true (by kernel_rfl)) (by unfold Func.isWrapper; first | (rw [if_pos (by decide +kernel)]; kernel_rfl) | (rw [if_neg (by decide +kernel)]; exact ⟨rfl, rfl⟩))
    (fun os started H enc _ F => by rw [OpenClaim.pre_eq_preRow]; exact lifted os started H enc F)

theorem plain (f : FuncId) (fn : Func) (hf : Tryd.pinned.checked.prog.funcNamed "loop.example/palim/laws.FnExactSumUnhex" = some f) (hfn : Tryd.pinned.checked.prog.funcs[f]? = some fn) :
    false = Tryd.pinned.checked.prog.looks [] ∧ ∀ (j : Nat) t, fn.params[j]? = some t → Tryd.pinned.checked.prog.wantsStandIn t = false := by
  obtain rfl : f = 7 := Option.some.inj ((show Tryd.prog.funcNamed "loop.example/palim/laws.FnExactSumUnhex" = some 7 by kernel_rfl).symm.trans hf) |>.symm
  obtain rfl : fn = Tryd.f7 := (Option.some.inj (Tryd.func7.symm.trans hfn)).symm
  refine ⟨by kernel_rfl, fun j t ht => ?_⟩
  rw [Tryd.params7] at ht
  obtain rfl : t = 9 := by simpa using Array.mem_of_getElem? ht
  exact (show Tryd.prog.wantsStandIn 9 = false by kernel_rfl)
end fnExactSumUnhex

/-- THE CARD. -/
theorem fnExactSumUnhex_card : Rows.FnExactSumUnhexCardSaid :=
  Claim7.holds_tied_plain_at .later [] _ _ _ _ fnExactSumUnhex.said (fun _ h => by cases h) (by kernel_rfl) (fun _ h => by cases h) fnExactSumUnhex_row_tie rfl ⟨rfl, rfl⟩ (by kernel_rfl) rfl fnExactSumUnhex.plain (by kernel_rfl)
#print axioms fnExactSumUnhex_card
end Go.Proofs.YtkghfdnbmidddaaDoor
