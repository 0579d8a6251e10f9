/-
  At every disk and number impl.LogFind answers as its model, writes into no argument, and its answer owns its memory: the law FnExactLogFind returns true, as the card states it.
  Conditions: the row's own (the library's tables and variables start as the program's text lays them; the card ties them).
-/
import Derived.Test.YtgjlhokakcdpbaaGreatDoorCards
import Derived.Test.YtgjlhokakcdpbaaGreatDoorTie
import Derived.Test.YtgjlhokakcdpbaaGreatDoorLFind
import Derived.Test.YtgjlhokakcdpbaaGreatDoorDiskArg
import Derived.Test.YtgjlhokakcdpbaaGreatDoorFrame2
import Derived.Test.YtgjlhokakcdpbaaGreatDoorFrame
import Derived.Test.YtgjlhokakcdpbaaGreatDoorZip
import Derived.WalkKit
import Derived.ProofKit
import Derived.OpenShut
import Derived.Deep.DeepHandedRow
import Derived.Lib.LaidTab
import Derived.LaidMore
import Derived.Stop.LaidErr
set_option maxRecDepth 100000
namespace Go.Proofs.YtgjlhokakcdpbaaGreatDoor
namespace fnExactLogFind
open Go.ChangeShapes Go.WideShapes Go.ChangeAt Go.RowKit Go.Proofs.Palim

theorem own : ownKnob Tryz.prog.godebug = none := by kernel_rfl
theorem laidOut : laidOutB Tryz.prog = true := by kernel_rfl
theorem gPowType : (Tryz.prog.globals[1]?).map (·.type) = some 275 := by kernel_rfl
theorem cellsPow : Tryz.prog.cellsOf 275 = 20 := by kernel_rfl
theorem cellsU64 : Tryz.prog.cellsOf 254 = 1 := by kernel_rfl
theorem pow {W : World} (h : laidMet Tryz.prog Rows.fnExactLogFindRow.laid W) : HasPow W :=
  Lib.tabIs_of_head (rest := [("unicode/utf8.acceptRanges", Rows.laid_unicode_utf8_acceptRanges), ("strconv.ErrRange", Rows.laid_strconv_ErrRange), ("strconv.ErrSyntax", Rows.laid_strconv_ErrSyntax), ("loop.example/palim/impl.sumDigits", Rows.laid_loop_example_palim_impl_sumDigits), ("unicode/utf8.first", Rows.laid_unicode_utf8_first)]) gPow gPowType Tryz.underlying275 Tryz.underlying254 cellsU64 cellsPow (laidMet.tail (laidMet.tail h))
theorem gSyn : Tryz.prog.globalNamed "strconv.ErrSyntax" = some 2 := by kernel_rfl
theorem gRan : Tryz.prog.globalNamed "strconv.ErrRange" = some 3 := by kernel_rfl
theorem gSynType : (Tryz.prog.globals[2]?).map (·.type) = some 159 := by kernel_rfl
theorem gRanType : (Tryz.prog.globals[3]?).map (·.type) = some 159 := by kernel_rfl
theorem libs {W : World} (h : laidMet Tryz.prog Rows.fnExactLogFindRow.laid W) (hsh : W.ShapedOpen Tryz.prog) : LibVars W := by
  obtain ⟨a0, a1, s0, s1, c0, c1, t0, t1, hv0, hv1, _⟩ := laid_sentinels2 (P := Tryz.prog) (n0 := "strconv.ErrRange") (n1 := "strconv.ErrSyntax") (r := [("loop.example/palim/impl.sumDigits", Rows.laid_loop_example_palim_impl_sumDigits), ("unicode/utf8.first", Rows.laid_unicode_utf8_first)]) (laidMet.tail (laidMet.tail (laidMet.tail (laidMet.tail h)))) gRan gRanType gSyn gSynType Tryz.underlying159 rowErr Tryz.underlying294 Tryz.underlying296 rfl rfl Tryz.underlying9 cellsErrS cellsStr
  exact ⟨pow h, Tryz.laysM145.s1_3 W hsh, ⟨_, _, by simpa using World.var?_cell gSyn hv1 0⟩, ⟨_, _, by simpa using World.var?_cell gRan hv0 0⟩⟩
theorem gTab : Tryz.prog.globalNamed "loop.example/palim/impl.sumDigits" = some 4 := by kernel_rfl
theorem gTabType : (Tryz.prog.globals[4]?).map (·.type) = some 284 := by kernel_rfl
theorem cellsTab : Tryz.prog.cellsOf 284 = 16 := by kernel_rfl
theorem cellsU8 : Tryz.prog.cellsOf 5 = 1 := by kernel_rfl
theorem table {W : World} (h : laidMet Tryz.prog Rows.fnExactLogFindRow.laid W) : Lib.TabIs Tryz.prog W "loop.example/palim/impl.sumDigits" .u8 [48, 49, 50, 51, 52, 53, 54, 55, 56, 57, 97, 98, 99, 100, 101, 102] :=
  Lib.tabIs_of_head (rest := [("unicode/utf8.first", Rows.laid_unicode_utf8_first)]) gTab gTabType Tryz.underlying284 Tryz.underlying5 cellsU8 cellsTab (laidMet.tail (laidMet.tail (laidMet.tail (laidMet.tail (laidMet.tail (laidMet.tail h))))))
theorem digits {W : World} (h : laidMet Tryz.prog Rows.fnExactLogFindRow.laid W) : HasTab W := by
  have h1 := table h
  unfold Lib.TabIs World.var? at h1
  rw [gTab] at h1
  simp only [Option.bind_some] at h1
  split at h1
  · rename_i cs t fr hh
    exact ⟨t, fr, by rw [hh, Option.some.inj h1]; rfl⟩
  · cases h1
theorem lv {W : World} (h : laidMet Tryz.prog Rows.fnExactLogFindRow.laid W) (hsh : W.ShapedOpen Tryz.prog) : LogVars W := ⟨libs h hsh, digits h⟩

theorem contract (H : Type) (enc : TypeId × Value → H) (W : World) (base : Nat) (args : Array Value) (ds gs : List (DataW H)) (before : List MemPlace)
    (hval : ∀ (j : Nat) t v, Tryz.f5.params[j]? = some t → args[j]? = some v → Value.okWide Tryz.prog W .any base t v)
    (hW : DataW.Whole enc Tryz.prog Tryz.f5.params.toList Rows.fnExactLogFindSpec.vars false W args.toList ds gs before) (hL : laidMetH Tryz.prog Rows.fnExactLogFindRow.laid W) (hsh : W.ShapedOpen Tryz.prog) :
    Calls Tryz.prog 5 args W fun e W' => ∃ v, e = .returned v ∧ Rows.fnExactLogFindSpec.post enc Tryz.prog Tryz.f5 false true false false W args v W' := by
  have hW' := hW
  obtain ⟨p, q, hA0, hV, rfl, hfz, hnd⟩ := hW
  have hA : DataW.TrodAll enc Tryz.prog W 0 (fun _ => true) true Tryz.f5.params.toList args.toList ds p := hA0
  rw [Tryz.params5] at hA hval
  obtain ⟨x0, vs0, d0, ds0, p0, q0, hargs, rfl, rfl, h0, r0⟩ := trodAll_cons hA
  obtain ⟨x1, vs1, d1, ds1, p1, q1, rfl, rfl, rfl, h1, r1⟩ := trodAll_cons r0
  obtain ⟨rfl, rfl, rfl⟩ := trodAll_nil r1
  obtain rfl : args = #[x0, x1] := by cases args; simp_all
  obtain ⟨gv1, gt1, gcs1, gfu1, ge1, gp1, rfl, -⟩ := trodVars_one hV
  obtain ⟨v0, v1, vl, d, rfl, hd, hz0, hz1, hzl⟩ := disk_of (hval 0 46 x0 rfl rfl) h0
  obtain ⟨t, rfl, rfl, rfl, _ht⟩ := open_int Tryz.underlying3 (hval 1 3 x1 rfl rfl) h1
  clear hA0
  refine (lawLogFind v0 v1 vl d t W hd hz0 hz1 hzl (lv hL hsh)).mono fun e W' ⟨he, hb⟩ => ?_
  subst he
  refine ⟨_, rfl, law_post laidOut ?_ ?_ (by kernel_rfl) Tryz.underlying4 hW' rfl hb⟩
  · intro t ht
    rw [Tryz.params5] at ht
    rcases (by simpa using ht : t = 46 ∨ t = 3) with rfl | rfl
    · exact ⟨by kernel_rfl, by decide +kernel⟩
    · exact ⟨by kernel_rfl, by decide +kernel⟩
  · intro n hn g t hg ht
    obtain rfl : n = "loop.example/palim/impl.sumDigits" := by simpa [Rows.fnExactLogFindSpec] using hn
    obtain rfl := Option.some.inj (gTab.symm.trans hg)
    obtain rfl := Option.some.inj (gTabType.symm.trans ht)
    exact ⟨by kernel_rfl, by decide +kernel⟩

/-- The world that lays the listed variables meets the row's condition. -/
theorem door_met (os : Os) (args : Array Value) : laidMet Tryz.prog Rows.fnExactLogFindRow.laid ((World.laidAll Tryz.prog os Rows.fnExactLogFindRow.laid).forCall (fun _ _ => 0) ⟨#[], args, []⟩).memory :=
  laidMet_laidAll _ (by kernel_rfl) (by kernel_rfl)

theorem reads (os : Os) {H : Type} (enc : TypeId × Value → H) : ∃ d places, DataW.whole enc Tryz.prog ((World.laidAll Tryz.prog os Rows.fnExactLogFindRow.laid).forCall (fun _ _ => 0) ⟨#[], #[.agg #[.slice none 0 0, .slice none 0 0, .slice none 0 0], .int .i64 0], []⟩).memory Tryz.f5.params.toList Rows.fnExactLogFindSpec.vars false (#[.agg #[.slice none 0 0, .slice none 0 0, .slice none 0 0], .int .i64 0] : Array Value).toList 8 = some ([.agg [.agg [.nil, .nil], .nil], .lit (.int .i64 0)], [d], places) :=
  ⟨Rows.laid_loop_example_palim_impl_sumDigits, MemPlace.row ⟨4, 0, none⟩ 16, by kernel_rfl⟩

theorem lifted (os : Os) (started : os.Started) (H : Type) (enc : TypeId × Value → H) (F : Stop.Interp) :
    ReturnsInHanded {} Tryz.checked os 5 .any ((OpenSpec.ofChange Rows.fnExactLogFindSpec).preRow enc Tryz.prog Tryz.f5 Rows.fnExactLogFindRow.domain false Rows.fnExactLogFindRow.laid) (((OpenSpec.ofChange Rows.fnExactLogFindSpec).at F).post enc Tryz.prog Tryz.f5 false true false false) := by
  obtain ⟨d, places, hx⟩ := reads os enc
  refine returnsInHanded_of_row (C := Tryz.checked) (s := OpenSpec.ofChange Rows.fnExactLogFindSpec) own started (by kernel_rfl) Tryz.func5
    (witness_row_zip (enc := enc) (C := Tryz.checked) false (World.laidAll Tryz.prog os Rows.fnExactLogFindRow.laid) #[.agg #[.slice none 0 0, .slice none 0 0, .slice none 0 0], .int .i64 0] (World.laidAll_os _ _ _) (World.shaped_of_ZipB (by kernel_rfl) (by kernel_rfl)) (by kernel_rfl)
      (OpenSpec.preRow_of_cond 8 hx (by kernel_rfl) (fun k hk => by cases hk) (by kernel_rfl) (door_met os _))) ?_
  intro W base args ds gs before hval hW _ _ _ hL hsh _
  exact contract H enc W base args ds gs before hval hW hL hsh

theorem said : Rows.FnExactLogFindSaid :=
  OpenClaim.holds_of_cond 5 Tryz.f5 rfl rfl rfl rfl rfl rfl rfl ⟨rfl, rfl, rfl, rfl, rfl⟩ rfl rfl rfl rfl rfl (by kernel_rfl) Tryz.func5 (by kernel_rfl)
    (of_decide_eq_true (by kernel_rfl)) (by unfold Func.isWrapper; first | (rw [if_pos (by decide +kernel)]; kernel_rfl) | (rw [if_neg (by decide +kernel)]; exact ⟨rfl, rfl⟩))
    (fun os started H enc _ F => by rw [OpenClaim.pre_eq_preRow]; exact lifted os started H enc F)

theorem plain (f : FuncId) (fn : Func) (hf : Tryz.pinned.checked.prog.funcNamed "loop.example/palim/laws.FnExactLogFind" = some f) (hfn : Tryz.pinned.checked.prog.funcs[f]? = some fn) :
    true = Tryz.pinned.checked.prog.looks [] ∧ ∀ (j : Nat) t, fn.params[j]? = some t → Tryz.pinned.checked.prog.wantsStandIn t = false := by
  obtain rfl : f = 5 := Option.some.inj ((show Tryz.prog.funcNamed "loop.example/palim/laws.FnExactLogFind" = some 5 by kernel_rfl).symm.trans hf) |>.symm
  obtain rfl : fn = Tryz.f5 := (Option.some.inj (Tryz.func5.symm.trans hfn)).symm
  refine ⟨by kernel_rfl, fun j t ht => ?_⟩
  rw [Tryz.params5] at ht
  rcases (by simpa using Array.mem_of_getElem? ht : t = 46 ∨ t = 3) with rfl | rfl
  · exact (show Tryz.prog.wantsStandIn 46 = false by kernel_rfl)
  · exact (show Tryz.prog.wantsStandIn 3 = false by kernel_rfl)
end fnExactLogFind

/-- THE CARD. -/
theorem fnExactLogFind_card : Rows.FnExactLogFindCardSaid :=
  Claim7.holds_tied_plain_at .later [] _ _ _ _ fnExactLogFind.said (fun _ h => by cases h) (by kernel_rfl) (fun _ h => by cases h) fnExactLogFind_row_tie rfl ⟨rfl, rfl⟩ (by kernel_rfl) rfl fnExactLogFind.plain (by kernel_rfl)
#print axioms fnExactLogFind_card
end Go.Proofs.YtgjlhokakcdpbaaGreatDoor
