/-
  At every two codes: a drawn ring's word torn over one of another commit is read as one of the two or not at all: the law FnCoreTorn returns true, as the card states it.
  Conditions: the row's own (the library's tables and variables start as the program's text lays them; the card ties them).
-/
import Derived.Test.YtfcfgdpelbljnaaGreatDoorCards
import Derived.Test.YtfcfgdpelbljnaaGreatDoorTie
import Derived.Test.YtfcfgdpelbljnaaGreatDoorLCoreTorn
import Derived.Test.YtfcfgdpelbljnaaGreatDoorFrame2
import Derived.Test.YtfcfgdpelbljnaaGreatDoorFrame
import Derived.Test.YtfcfgdpelbljnaaGreatDoorZip
import Derived.WalkKit
import Derived.ProofKit
import Derived.OpenShut
import Derived.Deep.DeepHandedRow
import Derived.Lib.LaidTab
import Derived.LaidMore
import Derived.Stop.LaidErr
set_option maxRecDepth 100000
namespace Go.Proofs.YtfcfgdpelbljnaaGreatDoor
namespace fnCoreTorn
open Go.ChangeShapes Go.WideShapes Go.ChangeAt Go.RowKit Go.Proofs.Palim

theorem own : ownKnob Tryz.prog.godebug = none := by kernel_rfl
theorem laidOut : laidOutB Tryz.prog = true := by kernel_rfl
theorem gPowType : (Tryz.prog.globals[0]?).map (·.type) = some 122 := by kernel_rfl
theorem cellsTab : Tryz.prog.cellsOf 122 = 20 := by kernel_rfl
theorem cellsU64 : Tryz.prog.cellsOf 107 = 1 := by kernel_rfl
theorem pow {W : World} (h : laidMet Tryz.prog Rows.fnCoreTornRow.laid W) : HasPow W :=
  Lib.tabIs_of_head (rest := [("unicode/utf8.acceptRanges", Rows.laid_unicode_utf8_acceptRanges), ("strconv.ErrRange", Rows.laid_strconv_ErrRange), ("strconv.ErrSyntax", Rows.laid_strconv_ErrSyntax), ("unicode/utf8.first", Rows.laid_unicode_utf8_first)]) gPow gPowType Tryz.underlying122 Tryz.underlying107 cellsU64 cellsTab (laidMet.tail (laidMet.tail h))
theorem gSyn : Tryz.prog.globalNamed "strconv.ErrSyntax" = some 2 := by kernel_rfl
theorem gRan : Tryz.prog.globalNamed "strconv.ErrRange" = some 3 := by kernel_rfl
theorem gSynType : (Tryz.prog.globals[2]?).map (·.type) = some 98 := by kernel_rfl
theorem gRanType : (Tryz.prog.globals[3]?).map (·.type) = some 98 := by kernel_rfl
theorem libs {W : World} (h : laidMet Tryz.prog Rows.fnCoreTornRow.laid W) (hsh : W.ShapedOpen Tryz.prog) : LibVars W := by
  obtain ⟨a0, a1, s0, s1, c0, c1, t0, t1, hv0, hv1, _⟩ := laid_sentinels2 (P := Tryz.prog) (n0 := "strconv.ErrRange") (n1 := "strconv.ErrSyntax") (r := [("unicode/utf8.first", Rows.laid_unicode_utf8_first)]) (laidMet.tail (laidMet.tail (laidMet.tail (laidMet.tail h)))) gRan gRanType gSyn gSynType Tryz.underlying98 rowErr Tryz.underlying157 Tryz.underlying159 rfl rfl Tryz.underlying9 cellsErrS cellsStr
  exact ⟨pow h, Tryz.laysM145.s1_3 W hsh, ⟨_, _, by simpa using World.var?_cell gSyn hv1 0⟩, ⟨_, _, by simpa using World.var?_cell gRan hv0 0⟩⟩
theorem cellsU8 : Tryz.prog.cellsOf 5 = 1 := by kernel_rfl
/-- A []byte that came in is a code. -/
theorem code_of {H : Type} {enc : TypeId × Value → H} {W : World} {base : Nat} {v : Value} {d : DataW H} {p : List MemPlace} (hv : Value.okWide Tryz.prog W .any base 22 v)
    (h : DataW.Trod enc Tryz.prog W 0 (fun _ => true) true 22 v d p) : ∃ A n c, v = .slice A n c ∧ Code W A n c := by
  obtain ⟨A, n, c, rfl⟩ := okWide_slice Tryz.underlying22 hv
  refine ⟨A, n, c, rfl, ?_⟩
  obtain ⟨fuel, hf⟩ := h
  rcases open_ints Tryz.underlying22 Tryz.underlying5 cellsU8 hf with ⟨hcs, _⟩ | ⟨a, len', cap', zs, hcs, _, hl, hm, hz, _, hcell, hw⟩
  · have e : (.slice A n c : Value) = .slice none 0 0 := by simpa [Value.cells] using hcs
    injection e with e1 e2 e3
    subst e1 e2 e3
    exact ⟨Nat.le_refl _, Nat.zero_le _, Nat.zero_le _, Or.inl rfl⟩
  · have e : (.slice A n c : Value) = .slice (some a) len' cap' := by simpa [Value.cells] using hcs
    injection e with e1 e2 e3
    subst e1 e2 e3
    simp only [if_true] at hz
    refine ⟨hl, Nat.le_trans hl hm, hm, ?_⟩
    by_cases h0 : n = 0
    · exact Or.inl h0
    · right
      obtain ⟨b, off, rfl, hc⟩ := ints_at hcell (by omega)
      refine ⟨b, off, rfl, World.block_lt_of_cell? _ _ (hc 0 (by omega)), fun i hi => ?_⟩
      have hi' : i < zs.length := by omega
      have hb := bounds_u8 (hw zs[i] (List.getElem_mem hi'))
      refine ⟨UInt8.ofNat zs[i].toNat, ?_⟩
      rw [hc i hi', List.getD_eq_getElem?_getD, List.getElem?_eq_getElem hi', Option.getD_some, UInt8.toNat_ofNat_of_lt' (by have : UInt8.size = 256 := rfl; omega)]
      congr 2
      omega

theorem contract (H : Type) (enc : TypeId × Value → H) (W : World) (base : Nat) (args : Array Value) (ds gs : List (DataW H)) (before : List MemPlace)
    (hval : ∀ (j : Nat) t v, Tryz.f3.params[j]? = some t → args[j]? = some v → Value.okWide Tryz.prog W .any base t v)
    (hW : DataW.Whole enc Tryz.prog Tryz.f3.params.toList Rows.fnCoreTornSpec.vars false W args.toList ds gs before) (hL : laidMetH Tryz.prog Rows.fnCoreTornRow.laid W) (hsh : W.ShapedOpen Tryz.prog) :
    Calls Tryz.prog 3 args W fun e W' => ∃ v, e = .returned v ∧ Rows.fnCoreTornSpec.post enc Tryz.prog Tryz.f3 false true false false W args v W' := by
  have hW' := hW
  obtain ⟨p, q, hA0, hV, rfl, hfz, hnd⟩ := hW
  have hA : DataW.TrodAll enc Tryz.prog W 0 (fun _ => true) true Tryz.f3.params.toList args.toList ds p := hA0
  rw [Tryz.params3] at hA hval
  obtain ⟨x0, vs0, d0, ds0, p0, q0, hargs, rfl, rfl, h0, r0⟩ := trodAll_cons hA
  obtain ⟨x1, vs1, d1, ds1, p1, q1, rfl, rfl, rfl, h1, r1⟩ := trodAll_cons r0
  obtain ⟨rfl, rfl, rfl⟩ := trodAll_nil r1
  obtain rfl : args = #[x0, x1] := by cases args; simp_all
  obtain ⟨rfl, rfl⟩ := trodVars_none hV
  obtain ⟨A1, n1, c1, rfl, hc1⟩ := code_of (hval 0 22 x0 rfl rfl) h0
  obtain ⟨A2, n2, c2, rfl, hc2⟩ := code_of (hval 1 22 x1 rfl rfl) h1
  clear hA0
  refine (lawCoreTorn A1 A2 n1 c1 n2 c2 W hc1 hc2 (libs hL hsh)).mono fun e W' ⟨he, hb⟩ => ?_
  subst he
  refine ⟨_, rfl, law_post laidOut ?_ (fun n hn => by cases hn) (by kernel_rfl) Tryz.underlying4 hW' rfl hb⟩
  intro t ht
  rw [Tryz.params3] at ht
  obtain rfl : t = 22 := by simpa using ht
  exact ⟨by kernel_rfl, by decide +kernel⟩

/-- The world that lays the listed variables meets the row's condition. -/
theorem door_met (os : Os) (args : Array Value) : laidMet Tryz.prog Rows.fnCoreTornRow.laid ((World.laidAll Tryz.prog os Rows.fnCoreTornRow.laid).forCall (fun _ _ => 0) ⟨#[], args, []⟩).memory :=
  laidMet_laidAll _ (by kernel_rfl) (by kernel_rfl)

theorem lifted (os : Os) (started : os.Started) (H : Type) (enc : TypeId × Value → H) (F : Stop.Interp) :
    ReturnsInHanded {} Tryz.checked os 3 .any ((OpenSpec.ofChange Rows.fnCoreTornSpec).preRow enc Tryz.prog Tryz.f3 Rows.fnCoreTornRow.domain false Rows.fnCoreTornRow.laid) (((OpenSpec.ofChange Rows.fnCoreTornSpec).at F).post enc Tryz.prog Tryz.f3 false true false false) := by
  refine returnsInHanded_of_row (C := Tryz.checked) (s := OpenSpec.ofChange Rows.fnCoreTornSpec) own started (by kernel_rfl) Tryz.func3
    (witness_row_zip (enc := enc) (C := Tryz.checked) false (World.laidAll Tryz.prog os Rows.fnCoreTornRow.laid) #[.slice none 0 0, .slice none 0 0] (World.laidAll_os _ _ _) (World.shaped_of_ZipB (by kernel_rfl) (by kernel_rfl)) (by kernel_rfl)
      (OpenSpec.preRow_of_B rfl 8 (by kernel_rfl) (by kernel_rfl) (door_met os _))) ?_
  intro W base args ds gs before hval hW _ _ _ hL hsh _
  exact contract H enc W base args ds gs before hval hW hL hsh

theorem said : Rows.FnCoreTornSaid :=
  OpenClaim.holds_of_cond 3 Tryz.f3 rfl rfl rfl rfl rfl rfl rfl ⟨rfl, rfl, rfl, rfl, rfl⟩ rfl rfl rfl rfl rfl (by kernel_rfl) Tryz.func3 (by kernel_rfl)
    (of_decide_eq_true (by kernel_rfl)) (by unfold Func.isWrapper; first | (rw [if_pos (by decide +kernel)]; kernel_rfl) | (rw [if_neg (by decide +kernel)]; exact ⟨rfl, rfl⟩))
    (fun os started H enc _ F => by rw [OpenClaim.pre_eq_preRow]; exact lifted os started H enc F)

theorem plain (f : FuncId) (fn : Func) (hf : Tryz.pinned.checked.prog.funcNamed "loop.example/palim/laws.FnCoreTorn" = some f) (hfn : Tryz.pinned.checked.prog.funcs[f]? = some fn) :
    true = Tryz.pinned.checked.prog.looks [] ∧ ∀ (j : Nat) t, fn.params[j]? = some t → Tryz.pinned.checked.prog.wantsStandIn t = false := by
  obtain rfl : f = 3 := Option.some.inj ((show Tryz.prog.funcNamed "loop.example/palim/laws.FnCoreTorn" = some 3 by kernel_rfl).symm.trans hf) |>.symm
  obtain rfl : fn = Tryz.f3 := (Option.some.inj (Tryz.func3.symm.trans hfn)).symm
  refine ⟨by kernel_rfl, fun j t ht => ?_⟩
  rw [Tryz.params3] at ht
  obtain rfl : t = 22 := by simpa using Array.mem_of_getElem? ht
  exact (show Tryz.prog.wantsStandIn 22 = false by kernel_rfl)
end fnCoreTorn

/-- THE CARD. -/
theorem fnCoreTorn_card : Rows.FnCoreTornCardSaid :=
  Claim7.holds_tied_plain_at .later [] _ _ _ _ fnCoreTorn.said (fun _ h => by cases h) (by kernel_rfl) (fun _ h => by cases h) fnCoreTorn_row_tie rfl ⟨rfl, rfl⟩ (by kernel_rfl) rfl fnCoreTorn.plain (by kernel_rfl)
#print axioms fnCoreTorn_card
end Go.Proofs.YtfcfgdpelbljnaaGreatDoor
