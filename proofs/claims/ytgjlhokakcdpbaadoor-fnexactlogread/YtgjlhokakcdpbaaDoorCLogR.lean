/-
  At every text impl.LogRead answers as its model: the law FnExactLogRead returns true, as the card states it.
  Conditions: the row's own (the library's tables and variables start as the program's text lays them; the card ties them).
-/
import Derived.Test.YtgjlhokakcdpbaaDoorCards
import Derived.Test.YtgjlhokakcdpbaaDoorTie
import Derived.Test.YtgjlhokakcdpbaaDoorLLogR
import Derived.Test.YtgjlhokakcdpbaaDoorFrame2
import Derived.Test.YtgjlhokakcdpbaaDoorFrame
import Derived.Test.YtgjlhokakcdpbaaDoorZip
import Derived.WalkKit
import Derived.ProofKit
import Derived.OpenShut
import Derived.Deep.DeepHandedRow
import Derived.Lib.LaidTab
import Derived.LaidMore
import Derived.Stop.LaidErr
set_option maxRecDepth 100000
namespace Go.Proofs.YtgjlhokakcdpbaaDoor
namespace fnExactLogRead
open Go.ChangeShapes Go.WideShapes Go.ChangeAt Go.RowKit Go.Proofs.Palim

theorem own : ownKnob Tryd.prog.godebug = none := by kernel_rfl
theorem laidOut : laidOutB Tryd.prog = true := by kernel_rfl
theorem gPowType : (Tryd.prog.globals[1]?).map (·.type) = some 107 := by kernel_rfl
theorem cellsPow : Tryd.prog.cellsOf 107 = 20 := by kernel_rfl
theorem cellsU64 : Tryd.prog.cellsOf 90 = 1 := by kernel_rfl
theorem pow {W : World} (h : laidMet Tryd.prog Rows.fnExactLogReadRow.laid W) : HasPow W :=
  Lib.tabIs_of_head (rest := [("unicode/utf8.acceptRanges", Rows.laid_unicode_utf8_acceptRanges), ("strconv.ErrRange", Rows.laid_strconv_ErrRange), ("strconv.ErrSyntax", Rows.laid_strconv_ErrSyntax), ("loop.example/palim/impl.sumDigits", Rows.laid_loop_example_palim_impl_sumDigits), ("unicode/utf8.first", Rows.laid_unicode_utf8_first)]) gPow gPowType Tryd.underlying107 Tryd.underlying90 cellsU64 cellsPow (laidMet.tail (laidMet.tail h))
theorem gSyn : Tryd.prog.globalNamed "strconv.ErrSyntax" = some 2 := by kernel_rfl
theorem gRan : Tryd.prog.globalNamed "strconv.ErrRange" = some 3 := by kernel_rfl
theorem gSynType : (Tryd.prog.globals[2]?).map (·.type) = some 68 := by kernel_rfl
theorem gRanType : (Tryd.prog.globals[3]?).map (·.type) = some 68 := by kernel_rfl
theorem libs {W : World} (h : laidMet Tryd.prog Rows.fnExactLogReadRow.laid W) (hsh : W.ShapedOpen Tryd.prog) : LibVars W := by
  obtain ⟨a0, a1, s0, s1, c0, c1, t0, t1, hv0, hv1, _⟩ := laid_sentinels2 (P := Tryd.prog) (n0 := "strconv.ErrRange") (n1 := "strconv.ErrSyntax") (r := [("loop.example/palim/impl.sumDigits", Rows.laid_loop_example_palim_impl_sumDigits), ("unicode/utf8.first", Rows.laid_unicode_utf8_first)]) (laidMet.tail (laidMet.tail (laidMet.tail (laidMet.tail h)))) gRan gRanType gSyn gSynType Tryd.underlying68 rowErr Tryd.underlying125 Tryd.underlying127 rfl rfl Tryd.underlying9 cellsErrS cellsStr
  exact ⟨pow h, Tryd.laysM145.s1_3 W hsh, ⟨_, _, by simpa using World.var?_cell gSyn hv1 0⟩, ⟨_, _, by simpa using World.var?_cell gRan hv0 0⟩⟩
theorem gTab : Tryd.prog.globalNamed "loop.example/palim/impl.sumDigits" = some 4 := by kernel_rfl
theorem gTabType : (Tryd.prog.globals[4]?).map (·.type) = some 117 := by kernel_rfl
theorem cellsTab : Tryd.prog.cellsOf 117 = 16 := by kernel_rfl
theorem cellsU8 : Tryd.prog.cellsOf 5 = 1 := by kernel_rfl
theorem table {W : World} (h : laidMet Tryd.prog Rows.fnExactLogReadRow.laid W) : Lib.TabIs Tryd.prog W "loop.example/palim/impl.sumDigits" .u8 [48, 49, 50, 51, 52, 53, 54, 55, 56, 57, 97, 98, 99, 100, 101, 102] :=
  Lib.tabIs_of_head (rest := [("unicode/utf8.first", Rows.laid_unicode_utf8_first)]) gTab gTabType Tryd.underlying117 Tryd.underlying5 cellsU8 cellsTab (laidMet.tail (laidMet.tail (laidMet.tail (laidMet.tail (laidMet.tail (laidMet.tail h))))))
theorem digits {W : World} (h : laidMet Tryd.prog Rows.fnExactLogReadRow.laid W) : HasTab W := by
  have h1 := table h
  unfold Lib.TabIs World.var? at h1
  rw [gTab] at h1
  simp only [Option.bind_some] at h1
  split at h1
  · rename_i cs t fr hh
    exact ⟨t, fr, by rw [hh, Option.some.inj h1]; rfl⟩
  · cases h1
theorem lv {W : World} (h : laidMet Tryd.prog Rows.fnExactLogReadRow.laid W) (hsh : W.ShapedOpen Tryd.prog) : LogVars W := ⟨libs h hsh, digits h⟩

theorem contract (H : Type) (enc : TypeId × Value → H) (W : World) (base : Nat) (args : Array Value) (ds gs : List (DataW H)) (before : List MemPlace)
    (hval : ∀ (j : Nat) t v, Tryd.f4.params[j]? = some t → args[j]? = some v → Value.okWide Tryd.prog W .any base t v)
    (hW : DataW.Whole enc Tryd.prog Tryd.f4.params.toList Rows.fnExactLogReadSpec.vars false W args.toList ds gs before) (hL : laidMetH Tryd.prog Rows.fnExactLogReadRow.laid W) (hsh : W.ShapedOpen Tryd.prog) :
    Calls Tryd.prog 4 args W fun e W' => ∃ v, e = .returned v ∧ Rows.fnExactLogReadSpec.post enc Tryd.prog Tryd.f4 false true false false W args v W' := by
  have hW' := hW
  obtain ⟨p, q, hA0, hV, rfl, hfz, hnd⟩ := hW
  have hA : DataW.TrodAll enc Tryd.prog W 0 (fun _ => true) true Tryd.f4.params.toList args.toList ds p := hA0
  rw [Tryd.params4] at hA hval
  obtain ⟨x0, vs0, d0, ds0, p0, q0, hargs, rfl, rfl, h0, r0⟩ := trodAll_cons hA
  obtain ⟨rfl, rfl, rfl⟩ := trodAll_nil r0
  obtain rfl : args = #[x0] := by cases args; simp_all
  obtain ⟨gv1, gt1, gcs1, gfu1, ge1, gp1, rfl, -⟩ := trodVars_one hV
  obtain ⟨t, rfl, rfl, rfl, wt⟩ := Go.ChangeMaps.open_string Tryd.underlying9 (hval 0 9 x0 rfl rfl) h0
  clear hA0
  refine (lawLogRead t W wt (lv hL hsh)).mono fun e W' ⟨he, hb⟩ => ?_
  subst he
  refine ⟨_, rfl, law_post laidOut ?_ ?_ (by kernel_rfl) Tryd.underlying4 hW' rfl hb⟩
  · intro t ht
    rw [Tryd.params4] at ht
    obtain rfl : t = 9 := by simpa using ht
    exact ⟨by kernel_rfl, by decide +kernel⟩
  · intro n hn g t hg ht
    obtain rfl : n = "loop.example/palim/impl.sumDigits" := by simpa [Rows.fnExactLogReadSpec] using hn
    obtain rfl := Option.some.inj (gTab.symm.trans hg)
    obtain rfl := Option.some.inj (gTabType.symm.trans ht)
    exact ⟨by kernel_rfl, by decide +kernel⟩

/-- The world that lays the listed variables meets the row's condition. -/
theorem door_met (os : Os) (args : Array Value) : laidMet Tryd.prog Rows.fnExactLogReadRow.laid ((World.laidAll Tryd.prog os Rows.fnExactLogReadRow.laid).forCall (fun _ _ => 0) ⟨#[], args, []⟩).memory :=
  laidMet_laidAll _ (by kernel_rfl) (by kernel_rfl)

theorem reads (os : Os) {H : Type} (enc : TypeId × Value → H) : ∃ d places, DataW.whole enc Tryd.prog ((World.laidAll Tryd.prog os Rows.fnExactLogReadRow.laid).forCall (fun _ _ => 0) ⟨#[], #[.string ByteArray.empty], []⟩).memory Tryd.f4.params.toList Rows.fnExactLogReadSpec.vars false (#[.string ByteArray.empty] : Array Value).toList 8 = some ([.lit (.string [])], [d], places) :=
  ⟨Rows.laid_loop_example_palim_impl_sumDigits, MemPlace.row ⟨4, 0, none⟩ 16, by kernel_rfl⟩

theorem lifted (os : Os) (started : os.Started) (H : Type) (enc : TypeId × Value → H) (F : Stop.Interp) :
    ReturnsInHanded {} Tryd.checked os 4 .any ((OpenSpec.ofChange Rows.fnExactLogReadSpec).preRow enc Tryd.prog Tryd.f4 Rows.fnExactLogReadRow.domain false Rows.fnExactLogReadRow.laid) (((OpenSpec.ofChange Rows.fnExactLogReadSpec).at F).post enc Tryd.prog Tryd.f4 false true false false) := by
  obtain ⟨d, places, hx⟩ := reads os enc
  refine returnsInHanded_of_row (C := Tryd.checked) (s := OpenSpec.ofChange Rows.fnExactLogReadSpec) own started (by kernel_rfl) Tryd.func4
    (witness_row_zip (enc := enc) (C := Tryd.checked) false (World.laidAll Tryd.prog os Rows.fnExactLogReadRow.laid) #[.string ByteArray.empty] (World.laidAll_os _ _ _) (World.shaped_of_ZipB (by kernel_rfl) (by kernel_rfl)) (by kernel_rfl)
      (OpenSpec.preRow_of_cond 8 hx (by kernel_rfl) (fun k hk => by cases hk) (by kernel_rfl) (door_met os _))) ?_
  intro W base args ds gs before hval hW _ _ _ hL hsh _
  exact contract H enc W base args ds gs before hval hW hL hsh

theorem said : Rows.FnExactLogReadSaid :=
  OpenClaim.holds_of_cond 4 Tryd.f4 rfl rfl rfl rfl rfl rfl rfl ⟨rfl, rfl, rfl, rfl, rfl⟩ rfl rfl rfl rfl rfl (by kernel_rfl) Tryd.func4 (by kernel_rfl)
    (of_decide_eq_true (by kernel_rfl)) (by unfold Func.isWrapper; first | (rw [if_pos (by decide +kernel)]; kernel_rfl) | (rw [if_neg (by decide +kernel)]; exact ⟨rfl, rfl⟩))
    (fun os started H enc _ F => by rw [OpenClaim.pre_eq_preRow]; exact lifted os started H enc F)

theorem plain (f : FuncId) (fn : Func) (hf : Tryd.pinned.checked.prog.funcNamed "loop.example/palim/laws.FnExactLogRead" = some f) (hfn : Tryd.pinned.checked.prog.funcs[f]? = some fn) :
    true = Tryd.pinned.checked.prog.looks [] ∧ ∀ (j : Nat) t, fn.params[j]? = some t → Tryd.pinned.checked.prog.wantsStandIn t = false := by
  obtain rfl : f = 4 := Option.some.inj ((show Tryd.prog.funcNamed "loop.example/palim/laws.FnExactLogRead" = some 4 by kernel_rfl).symm.trans hf) |>.symm
  obtain rfl : fn = Tryd.f4 := (Option.some.inj (Tryd.func4.symm.trans hfn)).symm
  refine ⟨by kernel_rfl, fun j t ht => ?_⟩
  rw [Tryd.params4] at ht
  obtain rfl : t = 9 := by simpa using Array.mem_of_getElem? ht
  exact (show Tryd.prog.wantsStandIn 9 = false by kernel_rfl)
end fnExactLogRead

/-- THE CARD. -/
theorem fnExactLogRead_card : Rows.FnExactLogReadCardSaid :=
  Claim7.holds_tied_plain_at .later [] _ _ _ _ fnExactLogRead.said (fun _ h => by cases h) (by kernel_rfl) (fun _ h => by cases h) fnExactLogRead_row_tie rfl ⟨rfl, rfl⟩ (by kernel_rfl) rfl fnExactLogRead.plain (by kernel_rfl)
#print axioms fnExactLogRead_card
end Go.Proofs.YtgjlhokakcdpbaaDoor
