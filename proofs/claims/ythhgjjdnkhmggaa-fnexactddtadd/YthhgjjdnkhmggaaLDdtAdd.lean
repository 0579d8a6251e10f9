/-
  The law on DdtAdd, walked.
-/
import Derived.Test.YthhgjjdnkhmggaaDdtMk
import Derived.Test.YthhgjjdnkhmggaaDiskLaw
import Derived.Test.YthhgjjdnkhmggaaSDdt2
import Derived.Test.YthhgjjdnkhmggaaImList
set_option maxRecDepth 100000
namespace Go.Proofs.Ythhgjjdnkhmggaa
open Go.ChangeShapes Go.WideShapes Go.ChangeAt Go.RowKit Go.Proofs.Palim

theorem own_bDDdtAdd {w w' : World} {base e sz n : Nat} {v : Value} {xs : List Value} (h : w.ownsRow base e sz v n xs) (hb : Below w.heap.size w w') : w'.ownsRow base e sz v n xs := own_kept h (fun b e => hb.block b (h.lt b e).2)
theorem own_tDDdtAdd {S : Nat → Prop} {w w' : World} {base e sz n : Nat} {v : Value} {xs : List Value} (h : w.ownsRow base e sz v n xs) (ht : Turned S w w') (hn : ∀ b, v.ownBlock = some b → ¬ S b) : w'.ownsRow base e sz v n xs := own_kept h (fun b e => ht.block b (h.lt b e).2 (hn b e))

set_option maxHeartbeats 4000000 in
theorem lawDdtAdd (v : Value) (ls : List EntM) (s a : Int) (w : World) (h : Sl w 3 v ls.length (ecs ls)) (hv : Low w.heap.size v) (hw0 : (Lit.int .i64 s).wf = true) (hw1 : (Lit.int .i64 a).wf = true) :
    Calls Try.prog 4 #[v, .int .i64 s, .int .i64 a] w fun e w' => e = .returned (.bool true) ∧ Below w.heap.size w w' := by
  have hnot : ∀ (x : Bool) (w : World), (Op.unary .not (.bool x)).run Try.prog w = .ok (.bool (!x)) w := fun _ _ => rfl
  obtain ⟨T, HT⟩ : ∃ T, Hid ((addR ls s a).1 = T) := ⟨_, Lib.hid rfl⟩
  obtain ⟨R, HR⟩ : ∃ R, Hid ((addR ls s a).2 = R) := ⟨_, Lib.hid rfl⟩
  have hTl : T.length ≤ 48 := by rw [← HT.out]; exact addR_le _ _ _
  have HD := Lib.hid h
  have HV := Lib.hid hv
  have hnm := h.le
  unfold maxLen at hnm
  obtain ⟨_, A, c, rfl, _, _, _⟩ := h
  clear hv
  obtain ⟨n, HN⟩ : ∃ n, Hid (ls.length = n) := ⟨_, Lib.hid rfl⟩
  rw [HN.out] at HD HV hnm ⊢
  go_enter Try.func4, Try.ntmps4
  go_wp2_with fail
  refine (szDdtEntryS_any _ n _ 1048576 _ HD.out (by omega) (by omega)).mono ?_
  rintro e w1 ⟨rfl, hb⟩
  have B1 := Lib.hid hb
  clear hb
  by_cases hbig : (1048576 : Int) < n
  · rw [if_pos hbig]
    go_wp2
    go_ret
    exact ⟨rfl, B1.out⟩
  rw [if_neg hbig]
  have hs : n ≤ 1048576 := by omega
  have hr2 : ¬ (1048576 - (n : Int) < 0) := by omega
  have HD1 := Lib.hid (show Sl w1 3 _ ls.length (ecs ls) from by rw [HN.out]; exact HD.out.below B1.out (fun b e => HV.out b e))
  have HV1 := Lib.hid (fun b e => Nat.lt_of_lt_of_le (HV.out b e) B1.out.size)
  clear HD
  -- spec's answer
  go_wp2_with fail
  refine (toDdtEntryS_any _ ls _ HD1.out HV1.out (by rw [HN.out]; exact hs)).mono ?_
  rintro e w2 ⟨va, rfl, hoa, hb⟩
  have HA := Lib.hid (sl_of_own hoa)
  have HAV := Lib.hid (fun b e => (hoa.lt b e).2)
  have HD2 := Lib.hid (HD1.out.below hb HV1.out)
  have B2 := Lib.hid (B1.out.trans (hb.mono B1.out.size))
  have HV2 := Lib.hid (fun b e => Nat.lt_of_lt_of_le (HV1.out b e) hb.size)
  clear hb hoa HD1 HV1 B1
  go_wp2_with fail
  refine (SpecDdtAdd_is _ ls s a T R _ HA.out HAV.out hw0 hw1 HT.out HR.out).mono ?_
  rintro e w3 ⟨vw, rfl, how, hb⟩
  have OW3 := Lib.hid how
  have HD3 := Lib.hid (HD2.out.below hb HV2.out)
  have B3 := Lib.hid (B2.out.trans (hb.mono B2.out.size))
  have HV3 := Lib.hid (fun b e => Nat.lt_of_lt_of_le (HV2.out b e) hb.size)
  have hsz3 : w.heap.size ≤ w3.heap.size := B3.out.size
  obtain ⟨_, Aw, cw, rfl, _⟩ := sl_of_own how
  clear hb how HD2 HV2 B2 HA HAV
  -- impl's answer
  go_wp2_with fail
  refine (toDdtEntryS_any _ ls _ HD3.out HV3.out (by rw [HN.out]; exact hs)).mono ?_
  rintro e w4 ⟨vx, rfl, hox, hb⟩
  have OX4 := Lib.hid hox
  have OW4 := Lib.hid (own_bDDdtAdd OW3.out hb)
  have HD4 := Lib.hid (HD3.out.below hb HV3.out)
  have B4 := Lib.hid (B3.out.trans (hb.mono B3.out.size))
  have HV4 := Lib.hid (fun b e => Nat.lt_of_lt_of_le (HV3.out b e) hb.size)
  have hOWlt := Lib.hid (fun b e => (OW3.out.lt b e).2)
  have hOXlt := Lib.hid (fun b e => (hox.lt b e).2)
  have h34 : w3.heap.size ≤ w4.heap.size := hb.size
  obtain ⟨_, Ax, cx, rfl, _⟩ := sl_of_own hox
  clear hb hox HD3 B3 OW3
  go_wp2_with fail
  refine (ImplDdtAdd_is _ ls s a T R _ (sl_of_own OX4.out) (fun b e => (OX4.out.lt b e).2) hw0 hw1 HT.out HR.out).mono ?_
  rintro e w5 ⟨vg, rfl, hog, hb⟩
  have OG5 := Lib.hid hog
  have OX5 := Lib.hid (own_bDDdtAdd OX4.out hb)
  have OW5 := Lib.hid (own_bDDdtAdd OW4.out hb)
  have HD5 := Lib.hid (HD4.out.below hb HV4.out)
  have B5 := Lib.hid (B4.out.trans (hb.mono B4.out.size))
  have HV5 := Lib.hid (fun b e => Nat.lt_of_lt_of_le (HV4.out b e) hb.size)
  have hOGge := Lib.hid (show ∀ b, vg.ownBlock = some b → w4.heap.size ≤ b from fun b e => (hog.lt b e).1)
  obtain ⟨_, Ag, cg, rfl, _⟩ := sl_of_own hog
  clear hb hog HD4 HV4 B4 OX4 OW4
  go_wp2_with fail
  refine (eqDdtEntryS_same _ _ T _ (sl_of_own OG5.out) (sl_of_own OW5.out) (fun b e => (OG5.out.lt b e).2) (fun b e => (OW5.out.lt b e).2) (by omega)).mono ?_
  rintro e w6 ⟨rfl, hb⟩
  have OG6 := Lib.hid (own_bDDdtAdd OG5.out hb)
  have OX6 := Lib.hid (own_bDDdtAdd OX5.out hb)
  have OW6 := Lib.hid (own_bDDdtAdd OW5.out hb)
  have HD6 := Lib.hid (HD5.out.below hb HV5.out)
  have B6 := Lib.hid (B5.out.trans (hb.mono B5.out.size))
  have HV6 := Lib.hid (fun b e => Nat.lt_of_lt_of_le (HV5.out b e) hb.size)
  clear hb HD5 HV5 B5 OX5 OW5 OG5
  have hRR : (R != R) = false := by cases R <;> rfl
  go_wp2_with fail
  -- the argument is as it was
  refine (toDdtEntryS_any _ ls _ HD6.out HV6.out (by rw [HN.out]; exact hs)).mono ?_
  rintro e w7 ⟨vb, rfl, hob, hb⟩
  have HB := Lib.hid (sl_of_own hob)
  have HBV := Lib.hid (fun b e => (hob.lt b e).2)
  have OG7 := Lib.hid (own_bDDdtAdd OG6.out hb)
  have OX7 := Lib.hid (own_bDDdtAdd OX6.out hb)
  have OW7 := Lib.hid (own_bDDdtAdd OW6.out hb)
  have HD7 := Lib.hid (HD6.out.below hb HV6.out)
  have B7 := Lib.hid (B6.out.trans (hb.mono B6.out.size))
  have HV7 := Lib.hid (fun b e => Nat.lt_of_lt_of_le (HV6.out b e) hb.size)
  obtain ⟨_, Ab, cb, rfl, _⟩ := sl_of_own hob
  clear hb hob HD6 HV6 B6 OX6 OW6 OG6
  go_wp2_with fail
  refine (eqDdtEntryS_same _ _ ls _ (sl_of_own OX7.out) HB.out (fun b e => (OX7.out.lt b e).2) HBV.out (by rw [HN.out]; exact hs)).mono ?_
  rintro e w8 ⟨rfl, hb⟩
  have OG8 := Lib.hid (own_bDDdtAdd OG7.out hb)
  have OX8 := Lib.hid (own_bDDdtAdd OX7.out hb)
  have OW8 := Lib.hid (own_bDDdtAdd OW7.out hb)
  have HD8 := Lib.hid (HD7.out.below hb HV7.out)
  have B8 := Lib.hid (B7.out.trans (hb.mono B7.out.size))
  have HV8 := Lib.hid (fun b e => Nat.lt_of_lt_of_le (HV7.out b e) hb.size)
  clear hb HD7 HV7 B7 OX7 OW7 OG7 HB HBV
  -- the argument marked
  go_wp2_with fail
  refine (markDdtEntryS_any _ ls.length 1 _ _ _ OX8.out (by rw [HN.out]; exact hs) (by omega) (by omega)).mono ?_
  rintro e w9 ⟨rfl, -, ht⟩
  have hXT : Hid (∀ b, (Value.slice Ax ls.length cx).ownBlock = some b → w3.heap.size ≤ b ∧ b < w4.heap.size) := Lib.hid (fun b e => ⟨(OX8.out.lt b e).1, hOXlt.out b e⟩)
  have OG9 := Lib.hid (own_tDDdtAdd OG8.out ht (fun b e h => by have h1 := hXT.out b h; have h2 := hOGge.out b e; omega))
  have OW9 := Lib.hid (own_tDDdtAdd OW8.out ht (fun b e h => by have h1 := hXT.out b h; have h2 := hOWlt.out b e; omega))
  have hlow3 := Lib.hid (show ∀ b, (Value.slice A n c).ownBlock = some b → b < w.heap.size from fun b e => HV.out b e)
  have HD9 := Lib.hid (HD8.out.kept (fun b e => ht.block b (HV8.out b e) (fun h => by have h1 := hXT.out b h; have h2 := hlow3.out b e; omega)))
  have HV9 := Lib.hid (fun b e => Nat.lt_of_lt_of_le (HV8.out b e) ht.size)
  have B9 := Lib.hid (B8.out.trans (ht.below (fun b hb _ h => by have h1 := hXT.out b h; omega) B8.out.size))
  clear ht OG8 OX8 OW8 HD8 HV8 B8
  have hm1 : ¬ (((1 + 3 * ls.length : Nat) : Int) < 0) := by omega
  generalize ((1 + 3 * ls.length : Nat) : Int) = km at hm1
  go_wp2_with fail
  refine (eqDdtEntryS_same _ _ T _ (sl_of_own OG9.out) (sl_of_own OW9.out) (fun b e => (OG9.out.lt b e).2) (fun b e => (OW9.out.lt b e).2) (by omega)).mono ?_
  rintro e w10 ⟨rfl, hb⟩
  have OG10 := Lib.hid (own_bDDdtAdd OG9.out hb)
  have OW10 := Lib.hid (own_bDDdtAdd OW9.out hb)
  have HD10 := Lib.hid (HD9.out.below hb HV9.out)
  have B10 := Lib.hid (B9.out.trans (hb.mono B9.out.size))
  have HV10 := Lib.hid (fun b e => Nat.lt_of_lt_of_le (HV9.out b e) hb.size)
  clear hb OG9 OW9 HD9 HV9 B9
  -- the answer marked
  go_wp2_with fail
  refine (markDdtEntryS_any _ T.length 1 _ _ _ OG10.out (by omega) (by omega) (by omega)).mono ?_
  rintro e w11 ⟨rfl, hown, ht⟩
  have OG11 := Lib.hid hown
  have OW11 := Lib.hid (own_tDDdtAdd OW10.out ht (fun b e h => by have h1 := hOGge.out b h; have h2 := hOWlt.out b e; omega))
  have HD11 := Lib.hid (HD10.out.kept (fun b e => ht.block b (HV10.out b e) (fun h => by have h1 := hOGge.out b h; have h2 := hlow3.out b e; omega)))
  have HV11 := Lib.hid (fun b e => Nat.lt_of_lt_of_le (HV10.out b e) ht.size)
  have B11 := Lib.hid (B10.out.trans (ht.below (fun b hb _ h => by have h1 := hOGge.out b h; omega) B10.out.size))
  clear ht hown OG10 OW10 HD10 HV10 B10
  obtain ⟨mm, HMM⟩ : ∃ mm, Hid (((1 + 3 * T.length : Nat) : Int) = mm) := ⟨_, Lib.hid rfl⟩
  have hmm0 : ¬ mm < 0 := by have := HMM.out; omega
  have hmm1 : (mm != mm) = false := by simp
  rw [HMM.out]
  go_wp2_with fail
  refine (heldDdtEntryS_any _ T.length 1 _ (sl_of_own OG11.out) (fun b e => (OG11.out.lt b e).2) (by omega) (by omega) (by omega)).mono ?_
  rintro e w12 ⟨rfl, hb⟩
  rw [HMM.out]
  have OG12 := Lib.hid (own_bDDdtAdd OG11.out hb)
  have OW12 := Lib.hid (own_bDDdtAdd OW11.out hb)
  have HD12 := Lib.hid (HD11.out.below hb HV11.out)
  have B12 := Lib.hid (B11.out.trans (hb.mono B11.out.size))
  have HV12 := Lib.hid (fun b e => Nat.lt_of_lt_of_le (HV11.out b e) hb.size)
  clear hb OG11 OW11 HD11 HV11 B11
  -- once more
  go_wp2_with fail
  refine (toDdtEntryS_any _ ls _ HD12.out HV12.out (by rw [HN.out]; exact hs)).mono ?_
  rintro e w13 ⟨vc, rfl, hoc, hb⟩
  have OC13 := Lib.hid hoc
  have OG13 := Lib.hid (own_bDDdtAdd OG12.out hb)
  have OW13 := Lib.hid (own_bDDdtAdd OW12.out hb)
  have B13 := Lib.hid (B12.out.trans (hb.mono B12.out.size))
  clear hb hoc OG12 OW12 HD12 HV12 B12
  go_wp2_with fail
  refine (ImplDdtAdd_is _ ls s a T R _ (sl_of_own OC13.out) (fun b e => (OC13.out.lt b e).2) hw0 hw1 HT.out HR.out).mono ?_
  rintro e w14 ⟨vh, rfl, hoh, hb⟩
  have OH14 := Lib.hid hoh
  have OG14 := Lib.hid (own_bDDdtAdd OG13.out hb)
  have OW14 := Lib.hid (own_bDDdtAdd OW13.out hb)
  have B14 := Lib.hid (B13.out.trans (hb.mono B13.out.size))
  obtain ⟨_, Ah, ch, rfl, _⟩ := sl_of_own hoh
  clear hb hoh OC13 OG13 OW13 B13
  go_wp2_with fail
  refine (eqDdtEntryS_same _ _ T _ (sl_of_own OH14.out) (sl_of_own OW14.out) (fun b e => (OH14.out.lt b e).2) (fun b e => (OW14.out.lt b e).2) (by omega)).mono ?_
  rintro e w15 ⟨rfl, hb⟩
  have OG15 := Lib.hid (own_bDDdtAdd OG14.out hb)
  have B15 := Lib.hid (B14.out.trans (hb.mono B14.out.size))
  clear hb OH14 OG14 OW14 B14
  go_wp2_with fail
  refine (heldDdtEntryS_any _ T.length 1 _ (sl_of_own OG15.out) (fun b e => (OG15.out.lt b e).2) (by omega) (by omega) (by omega)).mono ?_
  rintro e w16 ⟨rfl, hb⟩
  rw [HMM.out]
  have B16 := Lib.hid (B15.out.trans (hb.mono B15.out.size))
  clear hb OG15 B15
  go_wp2
  go_ret
  exact ⟨rfl, B16.out⟩
end Go.Proofs.Ythhgjjdnkhmggaa
