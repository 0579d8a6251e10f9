/-
  The law on DdtRead, walked.
-/
import Derived.Test.YtojjenclcidnkaaDoorIDdtR
import Derived.Test.YtojjenclcidnkaaDoorDdtMk
set_option maxRecDepth 100000
namespace Go.Proofs.YtojjenclcidnkaaDoor
open Go.ChangeShapes Go.WideShapes Go.ChangeAt Go.RowKit Go.Proofs.Palim

theorem ansE_form {w w' : World} {o : Option (List EntM)} {v : Value} {b : Bool} (h : AnsE w o v b w') : b = o.isSome ∧ w'.ownsRow w.heap.size 33 3 v (o.getD []).length (ecs (o.getD [])) := by
  cases o with
  | some ls => exact h
  | none => obtain ⟨rfl, rfl⟩ := h; exact ⟨rfl, rfl, .inl ⟨rfl, rfl⟩⟩
theorem rdE_len {t : ByteArray} {o : Option (List EntM)} (h : RdE t o) : (o.getD []).length ≤ 1001 := by
  cases o with
  | none => simp
  | some ls =>
    obtain ⟨h1, h2⟩ := h
    by_cases hl : ls = []
    · subst hl; simp
    · have h3 := congrArg List.length (dspells_pieces h2 hl)
      rw [List.length_map, ← piecesC_32] at h3
      have h4 := piecesC_len 32 t.data.toList
      have h5 : t.data.toList.length = t.size := rfl
      simp only [Option.getD_some]
      omega
theorem below_turnedE {S : Nat → Prop} {B : Nat} {w w' : World} (ht : Turned S w w') (hS : ∀ b, S b → B ≤ b) (hB : B ≤ w.heap.size) : Below B w w' :=
  ⟨ht.os, ht.tape, ht.output, ht.size, fun i hi => ht.block i (by omega) (fun h => by have := hS i h; omega)⟩
set_option maxHeartbeats 2000000 in
theorem lawDdtRead (t : ByteArray) (w : World) (hm : t.size ≤ maxLen) (hv : LibVars w) :
    Calls Tryd.prog 3 #[.string t] w fun e w' => e = .returned (.bool true) ∧ Below w.heap.size w w' := by
  have hnot : ∀ (x : Bool) (w : World), (Op.unary .not (.bool x)).run Tryd.prog w = .ok (.bool (!x)) w := fun _ _ => rfl
  unfold maxLen at hm
  by_cases hbig : t.size > 1048576
  · have hbi : (t.size : Int) > 1048576 := by omega
    go_enter Tryd.func3, Tryd.ntmps3
    go_wp2
    go_ret
    exact ⟨rfl, Below.refl _ _⟩
  have hbi : ¬ ((t.size : Int) > 1048576) := by omega
  obtain ⟨o, ho⟩ := rdE_ex t
  have HO := Lib.hid ho
  have hlen := rdE_len ho
  obtain ⟨bo, hbo⟩ : ∃ bo, o.isSome = bo := ⟨_, rfl⟩
  obtain ⟨es, hes⟩ : ∃ es, o.getD [] = es := ⟨_, rfl⟩
  rw [hes] at hlen
  have hbb : (bo != bo) = false := by simp
  obtain ⟨M, HM⟩ : ∃ M, Hid (1 + 3 * es.length = M) := ⟨_, Lib.hid rfl⟩
  have hM0 : ¬ (M : Int) < 0 := by omega
  have hMM : ((M : Int) != (M : Int)) = false := by simp
  clear ho
  go_enter Tryd.func3, Tryd.ntmps3
  go_wp2_with fail
  refine (specDdtRead_any t o _ (by omega) HO.out).mono ?_
  rintro e w1 ⟨⟨vw, b, rfl, ha⟩, hb⟩
  obtain ⟨rfl, hown⟩ := ansE_form ha
  rw [hes] at hown
  rw [hbo]
  obtain ⟨_, WA, wc, rfl, -, -, -⟩ := sl_of_own hown
  have OW := Lib.hid hown
  have B1 := Lib.hid hb
  have HWL := Lib.hid (show ∀ b, (Value.slice WA es.length wc).ownBlock = some b → b < w1.heap.size from fun b e => (OW.out.lt b e).2)
  have HV1 := Lib.hid (hv.below hb)
  clear ha hown hb
  go_wp2_with fail
  refine (implDdtRead_any t o _ (by omega) HO.out HV1.out).mono ?_
  rintro e w2 ⟨⟨vg, b, rfl, ha⟩, hb⟩
  obtain ⟨rfl, hown⟩ := ansE_form ha
  rw [hes] at hown
  rw [hbo]
  obtain ⟨_, GA, gc, rfl, -, -, -⟩ := sl_of_own hown
  have OG := Lib.hid hown
  have HGL := Lib.hid (show ∀ b, (Value.slice GA es.length gc).ownBlock = some b → w1.heap.size ≤ b from fun b e => (OG.out.lt b e).1)
  have OW2 := Lib.hid (own_kept OW.out (fun b e => hb.block b (OW.out.lt b e).2))
  have B2 := Lib.hid (B1.out.trans (hb.mono B1.out.size))
  have h12 := hb.size
  have h01 := B1.out.size
  clear ha hown hb OW B1 HV1
  go_wp2_with fail
  refine (eqDdtEntryS_same _ _ es _ (sl_of_own OG.out) (sl_of_own OW2.out) (fun b e => (OG.out.lt b e).2) (fun b e => (OW2.out.lt b e).2) (by omega)).mono ?_
  rintro e w3 ⟨rfl, hb⟩
  have OG3 := Lib.hid (own_kept OG.out (fun b e => hb.block b (OG.out.lt b e).2))
  have OW3 := Lib.hid (own_kept OW2.out (fun b e => hb.block b (OW2.out.lt b e).2))
  have B3 := Lib.hid (B2.out.trans (hb.mono B2.out.size))
  have h23 := hb.size
  clear hb OG OW2 B2
  go_wp2_with fail
  refine (markDdtEntryS_any _ es.length 1 _ _ _ OG3.out (by omega) (by omega) (by omega)).mono ?_
  rintro e w4 ⟨rfl, hog, ht⟩
  rw [HM.out]
  have OG4 := Lib.hid hog
  have OW4 := Lib.hid (own_kept OW3.out (w' := w4) (fun b e => ht.block b (OW3.out.lt b e).2 (fun e' => by have := HWL.out b e; have := HGL.out b e'; omega)))
  have B4 := Lib.hid (B3.out.trans (below_turnedE ht (fun b e => by have := HGL.out b e; omega) B3.out.size))
  have h34 := ht.size
  clear hog ht OG3 OW3 B3
  go_wp2_with fail
  refine (heldDdtEntryS_any _ es.length 1 _ (sl_of_own OG4.out) (fun b e => (OG4.out.lt b e).2) (by omega) (by omega) (by omega)).mono ?_
  rintro e w5 ⟨rfl, hb⟩
  rw [HM.out]
  have OG5 := Lib.hid (own_kept OG4.out (fun b e => hb.block b (OG4.out.lt b e).2))
  have OW5 := Lib.hid (own_kept OW4.out (fun b e => hb.block b (OW4.out.lt b e).2))
  have B5 := Lib.hid (B4.out.trans (hb.mono B4.out.size))
  clear hb OG4 OW4 B4
  go_wp2_with fail
  refine (implDdtRead_any t o _ (by omega) HO.out (hv.below B5.out)).mono ?_
  rintro e w6 ⟨⟨vh, b, rfl, ha⟩, hb⟩
  obtain ⟨rfl, hown⟩ := ansE_form ha
  rw [hes] at hown
  rw [hbo]
  obtain ⟨_, HA, hc, rfl, -, -, -⟩ := sl_of_own hown
  have OH := Lib.hid hown
  have OG6 := Lib.hid (own_kept OG5.out (fun b e => hb.block b (OG5.out.lt b e).2))
  have OW6 := Lib.hid (own_kept OW5.out (fun b e => hb.block b (OW5.out.lt b e).2))
  have B6 := Lib.hid (B5.out.trans (hb.mono B5.out.size))
  clear ha hown hb OG5 OW5 B5
  go_wp2_with fail
  refine (eqDdtEntryS_same _ _ es _ (sl_of_own OH.out) (sl_of_own OW6.out) (fun b e => (OH.out.lt b e).2) (fun b e => (OW6.out.lt b e).2) (by omega)).mono ?_
  rintro e w7 ⟨rfl, hb⟩
  have OG7 := Lib.hid (own_kept OG6.out (fun b e => hb.block b (OG6.out.lt b e).2))
  have B7 := Lib.hid (B6.out.trans (hb.mono B6.out.size))
  clear hb OG6 OW6 OH B6
  go_wp2_with fail
  refine (heldDdtEntryS_any _ es.length 1 _ (sl_of_own OG7.out) (fun b e => (OG7.out.lt b e).2) (by omega) (by omega) (by omega)).mono ?_
  rintro e w8 ⟨rfl, hb⟩
  rw [HM.out]
  have B8 := Lib.hid (B7.out.trans (hb.mono B7.out.size))
  clear hb OG7 B7
  go_wp2
  go_ret
  exact ⟨rfl, B8.out⟩
end Go.Proofs.YtojjenclcidnkaaDoor
