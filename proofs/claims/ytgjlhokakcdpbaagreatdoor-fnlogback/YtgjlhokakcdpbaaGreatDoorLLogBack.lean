/-
  The law on torn records, walked.
-/
import Derived.Test.YtgjlhokakcdpbaaGreatDoorILogR
import Derived.Test.YtgjlhokakcdpbaaGreatDoorLogTorn
import Derived.Test.YtgjlhokakcdpbaaGreatDoorTornDisk
import Derived.Test.YtgjlhokakcdpbaaGreatDoorEqRec
import Derived.Test.YtgjlhokakcdpbaaGreatDoorDrawLog2
import Derived.Test.YtgjlhokakcdpbaaGreatDoorImDiskOpen
import Derived.Test.YtgjlhokakcdpbaaGreatDoorImDiskWrite
import Derived.Test.YtgjlhokakcdpbaaGreatDoorImDiskFlush
import Derived.Test.YtgjlhokakcdpbaaGreatDoorImDiskFall
set_option maxRecDepth 100000
namespace Go.Proofs.YtgjlhokakcdpbaaGreatDoor
open Go.ChangeShapes Go.WideShapes Go.ChangeAt Go.RowKit Go.Proofs.Palim

theorem sl_int1 (w : World) (z : Int) (e : Nat) : Sl (w.alloc (.cells #[.int .i64 z] e)) 1 (.slice (some ⟨w.heap.size, 0, none⟩) 1 1) 1 (ics [z]) := by
  refine ⟨rfl, _, _, rfl, Nat.le_refl _, by unfold maxLen; omega, Or.inr ⟨w.heap.size, 0, rfl, fun j u hu => ?_⟩⟩
  have := (box_new w #[.int .i64 z] e).cell j hu
  rwa [Nat.zero_add]
theorem log_some {r : RecM} (h : RecOk r) : ¬ (logText r).size = 0 := by
  obtain ⟨n, _, e, _⟩ := log_text_pieces h
  rw [size_list, e]; simp
theorem rec_box (w : World) (r : RecM) (t : Nat) : Box (w.alloc (.cells #[.int .i64 r.txg, .int .i64 r.seq, .int .i64 r.kind, .string r.a, .string r.b, .int .i64 r.i, .string r.text] t)) w.heap.size (rcs r) := box_new w _ t
set_option maxHeartbeats 16000000 in
theorem lawLogBack (A C : Option Addr) (n c m e0 : Nat) (w : World) (hA : Code w A n c) (hC : Code w C m e0) (hv : LogVars w) :
    Calls Tryz.prog 3 #[.slice A n c, .slice C m e0] w fun e w' => e = .returned (.bool true) ∧ Below w.heap.size w w' := by
  have hnot : ∀ (x : Bool) (w : World), (Op.unary .not (.bool x)).run Tryz.prog w = .ok (.bool (!x)) w := fun _ _ => rfl
  have HA := Lib.hid hA
  have HC := Lib.hid hC
  have HV := Lib.hid hv
  have ha := hA.2.1
  have hb := hC.2.1
  clear hA hC hv
  unfold maxLen at ha hb
  by_cases hn : 1048576 < n
  · go_enter Tryz.func3, Tryz.ntmps3
    go_wp2
    go_ret
    exact ⟨rfl, Below.refl _ _⟩
  by_cases hm : 1048576 < m
  · go_enter Tryz.func3, Tryz.ntmps3
    go_wp2
    go_ret
    exact ⟨rfl, Below.refl _ _⟩
  go_enter Tryz.func3, Tryz.ntmps3
  go_wp2_with fail
  refine (drawLogText_any A n c _ HA.out).mono ?_
  rintro e w1 ⟨r, hsm, rfl, hb1⟩
  have B := Lib.hid hb1
  have hza : r.a.size ≤ maxLen := by unfold maxLen; have := hsm.1; omega
  have hzt : r.text.size ≤ maxLen := by unfold maxLen; have := hsm.2.2; omega
  clear hb1 hsm HA
  have hn := Below.new (w := w1) (.cells #[.int .i64 r.txg, .int .i64 r.seq, .int .i64 r.kind, .string r.a, .string r.b, .int .i64 r.i, .string r.text] 26)
  replace B := Lib.hid (B.out.trans (hn.mono B.out.size))
  clear hn
  have XR := Lib.hid (box_new w1 #[.int .i64 r.txg, .int .i64 r.seq, .int .i64 r.kind, .string r.a, .string r.b, .int .i64 r.i, .string r.text] 26)
  obtain ⟨s, HS⟩ : ∃ s, Hid (logText r = s) := ⟨_, Lib.hid rfl⟩
  have hsz : s.size ≤ 200 := by rw [← HS.out]; exact logText_size r
  have x0 := XR.out.cell 0 rfl
  have x1 := XR.out.cell 1 rfl
  have x2 := XR.out.cell 2 rfl
  have x3 := XR.out.cell 3 rfl
  have x4 := XR.out.cell 4 rfl
  have x5 := XR.out.cell 5 rfl
  have x6 := XR.out.cell 6 rfl
  go_wp2_with fail
  refine (implLog_is r s _ hza hzt (HV.out.below B.out).libs.pow (HV.out.below B.out).tab HS.out).mono ?_
  rintro e w2 ⟨rfl, hb⟩
  replace XR := Lib.hid (XR.out.below hb XR.out.lt)
  replace B := Lib.hid (B.out.trans (hb.mono B.out.size))
  clear hb x0 x1 x2 x3 x4 x5 x6
  go_wp2_with fail
  refine (implLogRead_any s _ (by omega) (HV.out.below B.out)).mono ?_
  rintro e w3 ⟨hb, h⟩
  replace XR := Lib.hid (XR.out.below hb XR.out.lt)
  replace B := Lib.hid (B.out.trans (hb.mono B.out.size))
  clear hb
  obtain ⟨x, ok, rfl, HX⟩ : ∃ x ok, e = .returned (.tuple #[rv x, .bool ok]) ∧ Hid (RecOk r → r = x ∧ true = ok) := by
    rcases h with ⟨x, hs, rfl⟩ | ⟨hn, rfl⟩
    · exact ⟨x, true, rfl, Lib.hid (fun hr => ⟨lspells_one ⟨hr, HS.out⟩ hs, rfl⟩)⟩
    · exact ⟨noRec, false, rfl, Lib.hid (fun hr => absurd ⟨hr, HS.out⟩ (hn r))⟩
  clear h
  have hn := Below.new (w := w3) (.cells #[.int .i64 x.txg, .int .i64 x.seq, .int .i64 x.kind, .string x.a, .string x.b, .int .i64 x.i, .string x.text] 26)
  replace XR := Lib.hid (XR.out.below hn XR.out.lt)
  replace B := Lib.hid (B.out.trans (hn.mono B.out.size))
  clear hn
  have XX := Lib.hid (box_new w3 #[.int .i64 x.txg, .int .i64 x.seq, .int .i64 x.kind, .string x.a, .string x.b, .int .i64 x.i, .string x.text] 26)
  have x0 := XR.out.cell 0 rfl
  have x1 := XR.out.cell 1 rfl
  have x2 := XR.out.cell 2 rfl
  have x3 := XR.out.cell 3 rfl
  have x4 := XR.out.cell 4 rfl
  have x5 := XR.out.cell 5 rfl
  have x6 := XR.out.cell 6 rfl
  go_wp2_with fail
  refine (specLog_is r s _ hza hzt HS.out).mono ?_
  rintro e w4 ⟨rfl, hb⟩
  replace XR := Lib.hid (XR.out.below hb XR.out.lt)
  replace XX := Lib.hid (XX.out.below hb XX.out.lt)
  replace B := Lib.hid (B.out.trans (hb.mono B.out.size))
  clear hb x0 x1 x2 x3 x4 x5 x6
  have hss : (s.toList == s.toList) = true := by simp
  by_cases hok : RecOk r
  case pos =>
    obtain ⟨rfl, rfl⟩ := HX.out hok
    have hsne : (s.toList == []) = false := empty_no (by rw [← HS.out]; exact log_some hok)
    have hnx := neqRec r
    clear HX
    have u0 := XX.out.cell 0 rfl
    have u1 := XX.out.cell 1 rfl
    have u2 := XX.out.cell 2 rfl
    have u3 := XX.out.cell 3 rfl
    have u4 := XX.out.cell 4 rfl
    have u5 := XX.out.cell 5 rfl
    have u6 := XX.out.cell 6 rfl
    have x0 := XR.out.cell 0 rfl
    have x1 := XR.out.cell 1 rfl
    have x2 := XR.out.cell 2 rfl
    have x3 := XR.out.cell 3 rfl
    have x4 := XR.out.cell 4 rfl
    have x5 := XR.out.cell 5 rfl
    have x6 := XR.out.cell 6 rfl
    have CB := Lib.hid (HC.out.below B.out)
    go_wp2_with fail
    refine (drawLogRead_any C m e0 _ CB.out).mono ?_
    rintro e w5 ⟨tx, htx, rfl, hb⟩
    replace XR := Lib.hid (XR.out.below hb XR.out.lt)
    replace XX := Lib.hid (XX.out.below hb XX.out.lt)
    replace B := Lib.hid (B.out.trans (hb.mono B.out.size))
    clear hb CB u0 u1 u2 u3 u4 u5 u6 x0 x1 x2 x3 x4 x5 x6 hnx
    go_wp2_with fail
    refine (implLogRead_any tx _ (by omega) (HV.out.below B.out)).mono ?_
    rintro e w6 ⟨hb, h⟩
    replace XR := Lib.hid (XR.out.below hb XR.out.lt)
    replace XX := Lib.hid (XX.out.below hb XX.out.lt)
    replace B := Lib.hid (B.out.trans (hb.mono B.out.size))
    clear hb
    obtain ⟨y, fine, rfl, HY⟩ : ∃ y fine, e = .returned (.tuple #[rv y, .bool fine]) ∧ Hid ((fine = true ∧ LSpells tx y) ∨ (fine = false ∧ ∀ z, ¬ LSpells tx z)) := by
      rcases h with ⟨y, hs, rfl⟩ | ⟨hn, rfl⟩
      · exact ⟨y, true, rfl, Lib.hid (Or.inl ⟨rfl, hs⟩)⟩
      · exact ⟨noRec, false, rfl, Lib.hid (Or.inr ⟨rfl, hn⟩)⟩
    clear h
    have hn := Below.new (w := w6) (.cells #[.int .i64 y.txg, .int .i64 y.seq, .int .i64 y.kind, .string y.a, .string y.b, .int .i64 y.i, .string y.text] 26)
    replace XR := Lib.hid (XR.out.below hn XR.out.lt)
    replace XX := Lib.hid (XX.out.below hn XX.out.lt)
    replace B := Lib.hid (B.out.trans (hn.mono B.out.size))
    clear hn
    have XY := Lib.hid (box_new w6 #[.int .i64 y.txg, .int .i64 y.seq, .int .i64 y.kind, .string y.a, .string y.b, .int .i64 y.i, .string y.text] 26)
    go_wp2_with fail
    refine (specLogRead_any tx _ (by omega)).mono ?_
    rintro e w7 ⟨hb, h⟩
    replace XR := Lib.hid (XR.out.below hb XR.out.lt)
    replace XX := Lib.hid (XX.out.below hb XX.out.lt)
    replace XY := Lib.hid (XY.out.below hb XY.out.lt)
    replace B := Lib.hid (B.out.trans (hb.mono B.out.size))
    clear hb
    obtain ⟨z, rfl⟩ : ∃ z, e = .returned (.tuple #[rv z, .bool fine]) := by
      rcases h with ⟨z, hs, rfl⟩ | ⟨hn, rfl⟩
      · rcases HY.out with ⟨rfl, _⟩ | ⟨_, hno⟩
        · exact ⟨z, rfl⟩
        · exact absurd hs (hno z)
      · rcases HY.out with ⟨_, hy⟩ | ⟨rfl, _⟩
        · exact absurd hy (hn y)
        · exact ⟨noRec, rfl⟩
    clear h
    have hn := Below.new (w := w7) (.cells #[.int .i64 z.txg, .int .i64 z.seq, .int .i64 z.kind, .string z.a, .string z.b, .int .i64 z.i, .string z.text] 26)
    replace XR := Lib.hid (XR.out.below hn XR.out.lt)
    replace XX := Lib.hid (XX.out.below hn XX.out.lt)
    replace XY := Lib.hid (XY.out.below hn XY.out.lt)
    replace B := Lib.hid (B.out.trans (hn.mono B.out.size))
    clear hn
    cases fine
    case false =>
      clear HY
      have CB := Lib.hid (HC.out.below B.out)
      go_wp2_with fail
      refine (drawLogText_any C m e0 _ CB.out).mono ?_
      rintro e w9 ⟨o, hom, rfl, hb⟩
      replace XR := Lib.hid (XR.out.below hb XR.out.lt)
      replace XX := Lib.hid (XX.out.below hb XX.out.lt)
      replace XY := Lib.hid (XY.out.below hb XY.out.lt)
      replace B := Lib.hid (B.out.trans (hb.mono B.out.size))
      clear hb CB
      have hn := Below.new (w := w9) (.cells #[.int .i64 o.txg, .int .i64 o.seq, .int .i64 o.kind, .string o.a, .string o.b, .int .i64 o.i, .string o.text] 26)
      replace XR := Lib.hid (XR.out.below hn XR.out.lt)
      replace XX := Lib.hid (XX.out.below hn XX.out.lt)
      replace XY := Lib.hid (XY.out.below hn XY.out.lt)
      replace B := Lib.hid (B.out.trans (hn.mono B.out.size))
      clear hn
      have XO := Lib.hid (box_new w9 #[.int .i64 o.txg, .int .i64 o.seq, .int .i64 o.kind, .string o.a, .string o.b, .int .i64 o.i, .string o.text] 26)
      have hoa : o.a.size ≤ maxLen := by unfold maxLen; have := hom.1; omega
      have hot : o.text.size ≤ maxLen := by unfold maxLen; have := hom.2.2; omega
      clear hom
      have o0 := XO.out.cell 0 rfl
      have r0 := XR.out.cell 0 rfl
      by_cases htg : o.txg = r.txg
      · have htq : (o.txg == r.txg) = true := by simp [htg]
        clear htg
        go_wp2
        go_ret
        exact ⟨rfl, B.out⟩
      have htq : (o.txg == r.txg) = false := by simpa using htg
      obtain ⟨os, HOS⟩ : ∃ os, Hid (logText o = os) := ⟨_, Lib.hid rfl⟩
      have hosz : os.size ≤ 200 := by rw [← HOS.out]; exact logText_size o
      have HTORN := Lib.hid (show ∀ z, LSpells (tornM os s) z → z = r from fun z hz => by
        rw [← HS.out] at hz
        refine torn_spells hok ?_ hz
        by_cases hk : RecOk o
        · exact Or.inr ⟨o, hk, HOS.out.symm, htg⟩
        · exact Or.inl (by rw [← HOS.out, log_of_no hk]))
      have htz : (tornM os s).size ≤ 200 := tornM_size hosz hsz
      clear htg
      go_wp2_with fail
      refine (ImplDiskOpen_any 2 _ (by omega) (by omega)).mono ?_
      rintro e w10 ⟨v0, v1, vl, rfl, ho, hb⟩
      replace XR := Lib.hid (XR.out.below hb XR.out.lt)
      replace XX := Lib.hid (XX.out.below hb XX.out.lt)
      replace XY := Lib.hid (XY.out.below hb XY.out.lt)
      replace XO := Lib.hid (XO.out.below hb XO.out.lt)
      replace B := Lib.hid (B.out.trans (hb.mono B.out.size))
      clear hb o0 r0
      rw [open2] at ho
      have hnR : w1.heap.size ≠ w10.heap.size := by have := XR.out.lt; omega
      have hnO : w9.heap.size ≠ w10.heap.size := by have := XO.out.lt; omega
      have hwB : w.heap.size ≤ w10.heap.size := B.out.size
      obtain ⟨A0, k0, A1, k1, A2, k2, rfl, rfl, rfl⟩ := ho.forms
      have HD := Lib.hid (ho.reads.below (Below.new (w := w10) (.cells #[.slice A0 2 k0, .slice A1 2 k1, .slice A2 0 k2] 36)))
      clear ho
      have hn := Below.new (w := w10) (.cells #[.slice A0 2 k0, .slice A1 2 k1, .slice A2 0 k2] 36)
      replace XR := Lib.hid (XR.out.below hn XR.out.lt)
      replace XX := Lib.hid (XX.out.below hn XX.out.lt)
      replace XY := Lib.hid (XY.out.below hn XY.out.lt)
      replace XO := Lib.hid (XO.out.below hn XO.out.lt)
      replace B := Lib.hid (B.out.trans (hn.mono B.out.size))
      clear hn
      have XD := Lib.hid (box_new w10 #[.slice A0 2 k0, .slice A1 2 k1, .slice A2 0 k2] 36)
      have hwD : w10.heap.size < (w10.alloc (.cells #[.slice A0 2 k0, .slice A1 2 k1, .slice A2 0 k2] 36)).heap.size := by simp
      go_wp2_with fail
      have hXR0 := XR.out.drew
      have hXO0 := XO.out.drew
      have hXD0 := XD.out.drew
      have hB0 := B.out.drew
      have hHD0 := HD.out.below (Below.drew (Below.refl _ (w10.alloc (.cells #[.slice A0 2 k0, .slice A1 2 k1, .slice A2 0 k2] 36))))
      refine wp_region_held_drew (S := fun w' => w'.cell? ⟨w9.heap.size, 0, none⟩ = some (.int .i64 o.txg) ∧ w'.cell? ⟨w9.heap.size, 1, none⟩ = some (.int .i64 o.seq) ∧ w'.cell? ⟨w9.heap.size, 2, none⟩ = some (.int .i64 o.kind) ∧ w'.cell? ⟨w9.heap.size, 3, none⟩ = some (.string o.a) ∧ w'.cell? ⟨w9.heap.size, 4, none⟩ = some (.string o.b) ∧ w'.cell? ⟨w9.heap.size, 5, none⟩ = some (.int .i64 o.i) ∧ w'.cell? ⟨w9.heap.size, 6, none⟩ = some (.string o.text)) (by kernel_rfl) ⟨XO.out.cell 0 rfl, XO.out.cell 1 rfl, XO.out.cell 2 rfl, XO.out.cell 3 rfl, XO.out.cell 4 rfl, XO.out.cell 5 rfl, XO.out.cell 6 rfl⟩ (fun hHeld => ?_)
      have hwz0 : w10.heap.size < (w10.alloc (.cells #[.slice A0 2 k0, .slice A1 2 k1, .slice A2 0 k2] 36)).drew.heap.size := hwD
      generalize (w10.alloc (.cells #[.slice A0 2 k0, .slice A1 2 k1, .slice A2 0 k2] 36)).drew = wd at hHeld hXR0 hXO0 hXD0 hB0 hHD0 hwz0 ⊢
      refine wpAnyH_take (i := 1) (v := ?_) rfl (by kernel_rfl) (by kernel_rfl) (by kernel_rfl) (fun _ _ _ h => h) (Or.inl ⟨by rfl, ?_⟩) (by assumption) ?_
      rotate_left
      · (intro w' hSw; (try dsimp only at hSw); obtain ⟨hc0, hc1, hc2, hc3, hc4, hc5, hc6⟩ := hSw; go_simp; try with_reducible rfl)
      try simp only [Act.put]
      refine wpAnyH_ready (rs := [0, 2]) (by kernel_rfl) (by simp) ?_
      refine AllReadyH.cons rfl (fun K hK => ?_) (AllReadyH.cons rfl (fun K hK => ?_) (AllReadyH.nil))
      · have hway : True := trivial
        obtain ⟨x0, x1, x2⟩ := Box.three hXD0
        go_simp
        refine hK.out _ _ ⟨hXO0.cell 0 rfl, hXO0.cell 1 rfl, hXO0.cell 2 rfl, hXO0.cell 3 rfl, hXO0.cell 4 rfl, hXO0.cell 5 rfl, hXO0.cell 6 rfl⟩ (fun hHeld1 => ?_)
        clear hK K
        try simp only [Act.put]
        refine wpAnyH_ready (rs := [2]) (by kernel_rfl) (by simp) ?_
        refine AllReadyH.cons rfl (fun K hK => ?_) (AllReadyH.nil)
        go_simp
        go_at_call 7
        refine (implLog_is o os _ hoa hot (HV.out.below hB0).libs.pow (HV.out.below hB0).tab HOS.out).mono ?_
        rintro e wt1 ⟨rfl, hb1⟩
        have hXR1 := hXR0.below hb1 hXR0.lt
        have hXO1 := hXO0.below hb1 hXO0.lt
        have hXD1 := hXD0.below hb1 hXD0.lt
        have hB1 := hB0.trans (hb1.mono hB0.size)
        have hHD1 := hHD0.below hb1
        have hwz1 := Nat.lt_of_lt_of_le hwz0 hb1.size
        go_wp2_with fail
        refine hK.out _ _ ⟨hXO1.cell 0 rfl, hXO1.cell 1 rfl, hXO1.cell 2 rfl, hXO1.cell 3 rfl, hXO1.cell 4 rfl, hXO1.cell 5 rfl, hXO1.cell 6 rfl⟩ (fun hHeld2 => ?_)
        clear hK K
        try simp only [Act.put]
        refine wpAnyH_ready (rs := [3]) (by kernel_rfl) (by simp) ?_
        refine AllReadyH.cons rfl (fun K hK => ?_) (AllReadyH.nil)
        go_simp
        go_at_call 13
        refine (ImplDiskWrite_any ⟨[eB, eB], [eB, eB], []⟩ 0 1 os _ _ _ _ (by unfold maxLen; omega) hHD1 (short2 (by show 0 ≤ _; omega) (by show 0 ≤ _; omega) (by simp) (by simp))).mono ?_
        rintro e wt2 ⟨u0, u1, ul, rfl, ho2, hb2⟩
        rw [write2 (by show 0 ≤ _; omega) (by show 0 ≤ _; omega) (by omega)] at ho2
        obtain ⟨E0, q0, E1, q1, E2, q2, rfl, rfl, rfl⟩ := ho2.forms
        have hXR2 := hXR1.below hb2 hXR1.lt
        have hXO2 := hXO1.below hb2 hXO1.lt
        have hXD2 := hXD1.below hb2 hXD1.lt
        have hB2 := hB1.trans (hb2.mono hB1.size)
        have hwz2 := Nat.lt_of_lt_of_le hwz1 hb2.size
        go_wp2_with fail
        refine hK.out _ _ ⟨hXO2.cell 0 rfl, hXO2.cell 1 rfl, hXO2.cell 2 rfl, hXO2.cell 3 rfl, hXO2.cell 4 rfl, hXO2.cell 5 rfl, hXO2.cell 6 rfl⟩ (fun hHeld3 => ?_)
        clear hK K
        try simp only [Act.put]
        refine wpAnyH_take (i := 4) (v := ?_) rfl (by kernel_rfl) (by kernel_rfl) (by kernel_rfl) (fun _ _ _ h => h) (Or.inl ⟨by rfl, ?_⟩) (by assumption) ?_
        rotate_left
        · (intro w' hSw; (try dsimp only at hSw); obtain ⟨hc0, hc1, hc2, hc3, hc4, hc5, hc6⟩ := hSw; go_simp; try with_reducible rfl)
        try simp only [Act.put]
        refine wpAnyH_take (i := 5) (v := ?_) rfl (by kernel_rfl) (by kernel_rfl) (by kernel_rfl) (fun _ _ _ h => h) (Or.inl ⟨by rfl, ?_⟩) (by assumption) ?_
        rotate_left
        · (intro w' hSw; (try dsimp only at hSw); obtain ⟨hc0, hc1, hc2, hc3, hc4, hc5, hc6⟩ := hSw; go_simp; try with_reducible rfl)
        try simp only [Act.put]
        refine wpAnyH_take (i := 6) (v := ?_) rfl (by kernel_rfl) (by kernel_rfl) (by kernel_rfl) (fun _ _ _ h => h) (Or.inl ⟨by rfl, ?_⟩) (by assumption) ?_
        rotate_left
        · (intro w' hSw; (try dsimp only at hSw); obtain ⟨hc0, hc1, hc2, hc3, hc4, hc5, hc6⟩ := hSw; go_simp; try with_reducible rfl)
        try simp only [Act.put]
        refine wpAnyH_ready (rs := [7]) (by kernel_rfl) (by simp) ?_
        refine AllReadyH.cons rfl (fun K hK => ?_) (AllReadyH.nil)
        obtain ⟨g0, g1, g2⟩ := Box.three hXD2
        have gf0 := hXD2.open_ 0
        have gf1 := hXD2.open_ 1
        have gf2 := hXD2.open_ 2
        have hXD3 : Box (((wt2.setCell ⟨w10.heap.size, 0, none⟩ (.slice E0 2 q0)).setCell ⟨w10.heap.size, 1, none⟩ (.slice E1 2 q1)).setCell ⟨w10.heap.size, 2, none⟩ (.slice E2 1 q2)) w10.heap.size [.slice E0 2 q0, .slice E1 2 q1, .slice E2 1 q2] := (((hXD2.set 0 (.slice E0 2 q0)).set 1 (.slice E1 2 q1)).set 2 (.slice E2 1 q2))
        have hXR3 := (((hXR2.other (p := ⟨w10.heap.size, 0, none⟩) hnR (.slice E0 2 q0)).other (p := ⟨w10.heap.size, 1, none⟩) hnR (.slice E1 2 q1)).other (p := ⟨w10.heap.size, 2, none⟩) hnR (.slice E2 1 q2))
        have hXO3 := (((hXO2.other (p := ⟨w10.heap.size, 0, none⟩) hnO (.slice E0 2 q0)).other (p := ⟨w10.heap.size, 1, none⟩) hnO (.slice E1 2 q1)).other (p := ⟨w10.heap.size, 2, none⟩) hnO (.slice E2 1 q2))
        have hB3 := (((hB2.setCell (p := ⟨w10.heap.size, 0, none⟩) hwB (.slice E0 2 q0)).setCell (p := ⟨w10.heap.size, 1, none⟩) hwB (.slice E1 2 q1)).setCell (p := ⟨w10.heap.size, 2, none⟩) hwB (.slice E2 1 q2))
        have hD3 := (ho2.set3 (a := ⟨w10.heap.size, 0, none⟩) (b := ⟨w10.heap.size, 1, none⟩) (c := ⟨w10.heap.size, 2, none⟩) (x := .slice E0 2 q0) (y := .slice E1 2 q1) (z := .slice E2 1 q2) hwz1 hwz1 hwz1)
        have hwz3 : w10.heap.size < (((wt2.setCell ⟨w10.heap.size, 0, none⟩ (.slice E0 2 q0)).setCell ⟨w10.heap.size, 1, none⟩ (.slice E1 2 q1)).setCell ⟨w10.heap.size, 2, none⟩ (.slice E2 1 q2)).heap.size := by simpa [World.setCell] using hwz2
        go_simp
        refine hK.out _ _ ⟨hXO3.cell 0 rfl, hXO3.cell 1 rfl, hXO3.cell 2 rfl, hXO3.cell 3 rfl, hXO3.cell 4 rfl, hXO3.cell 5 rfl, hXO3.cell 6 rfl⟩ (fun hHeld4 => ?_)
        clear hK K
        try simp only [Act.put]
        try (change wpAnyH _ _ _ _ _ _ _ _ (((wt2.setCell ⟨w10.heap.size, 0, none⟩ (.slice E0 2 q0)).setCell ⟨w10.heap.size, 1, none⟩ (.slice E1 2 q1)).setCell ⟨w10.heap.size, 2, none⟩ (.slice E2 1 q2)))
        generalize (((wt2.setCell ⟨w10.heap.size, 0, none⟩ (.slice E0 2 q0)).setCell ⟨w10.heap.size, 1, none⟩ (.slice E1 2 q1)).setCell ⟨w10.heap.size, 2, none⟩ (.slice E2 1 q2)) = w11 at hXD3 hXR3 hXO3 hB3 hD3 hwz3 ⊢
        refine wpAnyH_done (by kernel_rfl) ?_ _
        go_simp
        clear hXO3
        have XR := Lib.hid hXR3
        have XD := Lib.hid hXD3
        have B := Lib.hid hB3
        have D3 := Lib.hid hD3.reads
        have hw11 := hwz3
        clear hXR3 hXD3 hB3 hD3 hwz3
        obtain ⟨d0, d1, d2⟩ := XD.out.three
        go_wp2_with fail
        refine (ImplDiskFlush_any ⟨[eB, eB], [eB, eB], [⟨0, 1, os⟩]⟩ _ _ _ _ D3.out (short2 (by show 0 ≤ _; omega) (by show 0 ≤ _; omega) (by simp) (by intro x hx; obtain rfl := List.mem_singleton.1 hx; simp only; omega))).mono ?_
        rintro e w12 ⟨u0, u1, ul, rfl, ho, hb⟩
        rw [flush2 (by show 0 ≤ _; omega) (by show 0 ≤ _; omega) (by omega)] at ho
        replace XR := Lib.hid (XR.out.below hb XR.out.lt)
        replace XD := Lib.hid (XD.out.below hb XD.out.lt)
        replace B := Lib.hid (B.out.trans (hb.mono B.out.size))
        have hw12 := Nat.lt_of_lt_of_le hw11 hb.size
        clear hb d0 d1 d2 D3 hw11
        obtain ⟨G0, i0, G1, i1, G2, i2, rfl, rfl, rfl⟩ := ho.forms
        go_wp2_with fail
        refine (ImplDiskWrite_any ⟨[eB, os], [eB, eB], []⟩ 0 1 s _ _ _ _ (by unfold maxLen; omega) ho.reads (short2 (by show 0 ≤ _; omega) (by omega) (by simp) (by simp))).mono ?_
        rintro e w13 ⟨u0, u1, ul, rfl, ho', hb⟩
        clear ho
        rw [write2 (by show 0 ≤ _; omega) (by omega) (by omega)] at ho'
        replace XR := Lib.hid (XR.out.below hb XR.out.lt)
        replace XD := Lib.hid (XD.out.below hb XD.out.lt)
        replace B := Lib.hid (B.out.trans (hb.mono B.out.size))
        have hw13 := Nat.lt_of_lt_of_le hw12 hb.size
        clear hb
        obtain ⟨F0, j0, F1, j1, F2, j2, rfl, rfl, rfl⟩ := ho'.forms
        obtain ⟨d0, d1, d2⟩ := XD.out.three
        have df0 := XD.out.open_ 0
        have df1 := XD.out.open_ 1
        have df2 := XD.out.open_ 2
        have hn15 := Below.new (w := (((w13.setCell ⟨w10.heap.size, 0, none⟩ (.slice F0 2 j0)).setCell ⟨w10.heap.size, 1, none⟩ (.slice F1 2 j1)).setCell ⟨w10.heap.size, 2, none⟩ (.slice F2 1 j2))) (.cells #[.int .i64 2] 3)
        have D14 := Lib.hid ((ho'.set3 (a := ⟨w10.heap.size, 0, none⟩) (b := ⟨w10.heap.size, 1, none⟩) (c := ⟨w10.heap.size, 2, none⟩) (x := .slice F0 2 j0) (y := .slice F1 2 j1) (z := .slice F2 1 j2) hw12 hw12 hw12).reads.below hn15)
        have XD14 := Lib.hid (show Box (((w13.setCell ⟨w10.heap.size, 0, none⟩ (.slice F0 2 j0)).setCell ⟨w10.heap.size, 1, none⟩ (.slice F1 2 j1)).setCell ⟨w10.heap.size, 2, none⟩ (.slice F2 1 j2)) w10.heap.size [.slice F0 2 j0, .slice F1 2 j1, .slice F2 1 j2] from ((XD.out.set 0 (.slice F0 2 j0)).set 1 (.slice F1 2 j1)).set 2 (.slice F2 1 j2))
        have XR15 := Lib.hid ((((XR.out.other (p := ⟨w10.heap.size, 0, none⟩) hnR (.slice F0 2 j0)).other (p := ⟨w10.heap.size, 1, none⟩) hnR (.slice F1 2 j1)).other (p := ⟨w10.heap.size, 2, none⟩) hnR (.slice F2 1 j2)).alloc (.cells #[.int .i64 2] 3))
        have B15 := Lib.hid ((((B.out.setCell (p := ⟨w10.heap.size, 0, none⟩) hwB (.slice F0 2 j0)).setCell (p := ⟨w10.heap.size, 1, none⟩) hwB (.slice F1 2 j1)).setCell (p := ⟨w10.heap.size, 2, none⟩) hwB (.slice F2 1 j2)).trans (hn15.mono (by simpa [World.setCell] using B.out.size)))
        have HF := Lib.hid (sl_int1 (((w13.setCell ⟨w10.heap.size, 0, none⟩ (.slice F0 2 j0)).setCell ⟨w10.heap.size, 1, none⟩ (.slice F1 2 j1)).setCell ⟨w10.heap.size, 2, none⟩ (.slice F2 1 j2)) 2 3)
        have hWs : (((w13.setCell ⟨w10.heap.size, 0, none⟩ (.slice F0 2 j0)).setCell ⟨w10.heap.size, 1, none⟩ (.slice F1 2 j1)).setCell ⟨w10.heap.size, 2, none⟩ (.slice F2 1 j2)).heap.size = w13.heap.size := by simp [World.setCell]
        rw [hWs] at HF
        obtain ⟨dd0, dd1, dd2⟩ := XD14.out.three
        clear ho' hn15 XR B hw12
        go_wp2_with fail
        refine (ImplDiskFall_any ⟨[eB, os], [eB, eB], [⟨0, 1, s⟩]⟩ [2] _ _ _ _ _ D14.out (short2 (by show 0 ≤ _; omega) (by omega) (by simp) (by intro x hx; obtain rfl := List.mem_singleton.1 hx; simp only; omega)) HF.out (by intro b hb; injection hb with hb; subst hb; simp [World.setCell]) (by simp)).mono ?_
        rintro e w16 ⟨u0, u1, ul, rfl, ho, hb⟩
        rw [fall2 (by show 0 ≤ _; omega) (by omega) (by omega)] at ho
        have XR16 := Lib.hid (XR15.out.below hb XR15.out.lt)
        have B16 := Lib.hid (B15.out.trans (hb.mono B15.out.size))
        clear hb d0 d1 d2 df0 df1 df2 dd0 dd1 dd2 D14 XD XD14 HF XR15 B15 hWs
        obtain ⟨bt, ot, ct, rfl, _, hctm, hcell⟩ := ho.reads.r0.form (by simp)
        have tc := hcell 1 (.string (tornM os s)) rfl
        have hfl : ∀ (a b c : Value) (w : World), (Instr.field 36 (.agg #[a, b, c]) 0).run Tryz.prog w = .ok (.agg #[a, b]) w := fun _ _ _ _ => by kernel_rfl
        have hix : ∀ (a b : Value) (w : World), (Instr.index 33 (.agg #[a, b]) (.int .i64 0)).run Tryz.prog w = .ok a w := fun _ _ _ => by kernel_rfl
        unfold maxLen at hctm
        clear ho hcell
        go_wp2_with fail
        refine (implLogRead_any (tornM os s) _ (by omega) (HV.out.below B16.out)).mono ?_
        rintro e w17 ⟨hb, h⟩
        have XR17 := Lib.hid (XR16.out.below hb XR16.out.lt)
        have B17 := Lib.hid (B16.out.trans (hb.mono B16.out.size))
        clear hb XR16 B16 tc
        rcases h with ⟨zz, hz, rfl⟩ | ⟨_, rfl⟩
        · obtain rfl := HTORN.out zz hz
          have heq := eqlRec zz
          have XR18 := Lib.hid (XR17.out.alloc (.cells #[.int .i64 zz.txg, .int .i64 zz.seq, .int .i64 zz.kind, .string zz.a, .string zz.b, .int .i64 zz.i, .string zz.text] 26))
          have YR18 := Lib.hid (box_new w17 #[.int .i64 zz.txg, .int .i64 zz.seq, .int .i64 zz.kind, .string zz.a, .string zz.b, .int .i64 zz.i, .string zz.text] 26)
          have B18 := Lib.hid (B17.out.alloc B17.out.size (.cells #[.int .i64 zz.txg, .int .i64 zz.seq, .int .i64 zz.kind, .string zz.a, .string zz.b, .int .i64 zz.i, .string zz.text] 26))
          clear XR17 B17
          have xa0 := XR18.out.cell 0 rfl
          have ya0 := YR18.out.cell 0 rfl
          have xa1 := XR18.out.cell 1 rfl
          have ya1 := YR18.out.cell 1 rfl
          have xa2 := XR18.out.cell 2 rfl
          have ya2 := YR18.out.cell 2 rfl
          have xa3 := XR18.out.cell 3 rfl
          have ya3 := YR18.out.cell 3 rfl
          have xa4 := XR18.out.cell 4 rfl
          have ya4 := YR18.out.cell 4 rfl
          have xa5 := XR18.out.cell 5 rfl
          have ya5 := YR18.out.cell 5 rfl
          have xa6 := XR18.out.cell 6 rfl
          have ya6 := YR18.out.cell 6 rfl
          go_wp2
          go_ret
          exact ⟨rfl, B18.out⟩
        · have B18 := Lib.hid (B17.out.alloc B17.out.size (.cells #[.int .i64 0, .int .i64 0, .int .i64 0, .string ⟨#[]⟩, .string ⟨#[]⟩, .int .i64 0, .string ⟨#[]⟩] 26))
          go_wp2
          go_ret
          exact ⟨rfl, B18.out⟩
      · have hway : True := trivial
        go_simp
        go_at_call 7
        refine (implLog_is o os _ hoa hot (HV.out.below hB0).libs.pow (HV.out.below hB0).tab HOS.out).mono ?_
        rintro e wt1 ⟨rfl, hb1⟩
        have hXR1 := hXR0.below hb1 hXR0.lt
        have hXO1 := hXO0.below hb1 hXO0.lt
        have hXD1 := hXD0.below hb1 hXD0.lt
        have hB1 := hB0.trans (hb1.mono hB0.size)
        have hHD1 := hHD0.below hb1
        have hwz1 := Nat.lt_of_lt_of_le hwz0 hb1.size
        go_wp2_with fail
        refine hK.out _ _ ⟨hXO1.cell 0 rfl, hXO1.cell 1 rfl, hXO1.cell 2 rfl, hXO1.cell 3 rfl, hXO1.cell 4 rfl, hXO1.cell 5 rfl, hXO1.cell 6 rfl⟩ (fun hHeld1 => ?_)
        clear hK K
        try simp only [Act.put]
        refine wpAnyH_ready (rs := [0]) (by kernel_rfl) (by simp) ?_
        refine AllReadyH.cons rfl (fun K hK => ?_) (AllReadyH.nil)
        obtain ⟨x0, x1, x2⟩ := Box.three hXD1
        go_simp
        refine hK.out _ _ ⟨hXO1.cell 0 rfl, hXO1.cell 1 rfl, hXO1.cell 2 rfl, hXO1.cell 3 rfl, hXO1.cell 4 rfl, hXO1.cell 5 rfl, hXO1.cell 6 rfl⟩ (fun hHeld2 => ?_)
        clear hK K
        try simp only [Act.put]
        refine wpAnyH_ready (rs := [3]) (by kernel_rfl) (by simp) ?_
        refine AllReadyH.cons rfl (fun K hK => ?_) (AllReadyH.nil)
        go_simp
        go_at_call 13
        refine (ImplDiskWrite_any ⟨[eB, eB], [eB, eB], []⟩ 0 1 os _ _ _ _ (by unfold maxLen; omega) hHD1 (short2 (by show 0 ≤ _; omega) (by show 0 ≤ _; omega) (by simp) (by simp))).mono ?_
        rintro e wt2 ⟨u0, u1, ul, rfl, ho2, hb2⟩
        rw [write2 (by show 0 ≤ _; omega) (by show 0 ≤ _; omega) (by omega)] at ho2
        obtain ⟨E0, q0, E1, q1, E2, q2, rfl, rfl, rfl⟩ := ho2.forms
        have hXR2 := hXR1.below hb2 hXR1.lt
        have hXO2 := hXO1.below hb2 hXO1.lt
        have hXD2 := hXD1.below hb2 hXD1.lt
        have hB2 := hB1.trans (hb2.mono hB1.size)
        have hwz2 := Nat.lt_of_lt_of_le hwz1 hb2.size
        go_wp2_with fail
        refine hK.out _ _ ⟨hXO2.cell 0 rfl, hXO2.cell 1 rfl, hXO2.cell 2 rfl, hXO2.cell 3 rfl, hXO2.cell 4 rfl, hXO2.cell 5 rfl, hXO2.cell 6 rfl⟩ (fun hHeld3 => ?_)
        clear hK K
        try simp only [Act.put]
        refine wpAnyH_take (i := 4) (v := ?_) rfl (by kernel_rfl) (by kernel_rfl) (by kernel_rfl) (fun _ _ _ h => h) (Or.inl ⟨by rfl, ?_⟩) (by assumption) ?_
        rotate_left
        · (intro w' hSw; (try dsimp only at hSw); obtain ⟨hc0, hc1, hc2, hc3, hc4, hc5, hc6⟩ := hSw; go_simp; try with_reducible rfl)
        try simp only [Act.put]
        refine wpAnyH_take (i := 5) (v := ?_) rfl (by kernel_rfl) (by kernel_rfl) (by kernel_rfl) (fun _ _ _ h => h) (Or.inl ⟨by rfl, ?_⟩) (by assumption) ?_
        rotate_left
        · (intro w' hSw; (try dsimp only at hSw); obtain ⟨hc0, hc1, hc2, hc3, hc4, hc5, hc6⟩ := hSw; go_simp; try with_reducible rfl)
        try simp only [Act.put]
        refine wpAnyH_take (i := 6) (v := ?_) rfl (by kernel_rfl) (by kernel_rfl) (by kernel_rfl) (fun _ _ _ h => h) (Or.inl ⟨by rfl, ?_⟩) (by assumption) ?_
        rotate_left
        · (intro w' hSw; (try dsimp only at hSw); obtain ⟨hc0, hc1, hc2, hc3, hc4, hc5, hc6⟩ := hSw; go_simp; try with_reducible rfl)
        try simp only [Act.put]
        refine wpAnyH_ready (rs := [7]) (by kernel_rfl) (by simp) ?_
        refine AllReadyH.cons rfl (fun K hK => ?_) (AllReadyH.nil)
        obtain ⟨g0, g1, g2⟩ := Box.three hXD2
        have gf0 := hXD2.open_ 0
        have gf1 := hXD2.open_ 1
        have gf2 := hXD2.open_ 2
        have hXD3 : Box (((wt2.setCell ⟨w10.heap.size, 0, none⟩ (.slice E0 2 q0)).setCell ⟨w10.heap.size, 1, none⟩ (.slice E1 2 q1)).setCell ⟨w10.heap.size, 2, none⟩ (.slice E2 1 q2)) w10.heap.size [.slice E0 2 q0, .slice E1 2 q1, .slice E2 1 q2] := (((hXD2.set 0 (.slice E0 2 q0)).set 1 (.slice E1 2 q1)).set 2 (.slice E2 1 q2))
        have hXR3 := (((hXR2.other (p := ⟨w10.heap.size, 0, none⟩) hnR (.slice E0 2 q0)).other (p := ⟨w10.heap.size, 1, none⟩) hnR (.slice E1 2 q1)).other (p := ⟨w10.heap.size, 2, none⟩) hnR (.slice E2 1 q2))
        have hXO3 := (((hXO2.other (p := ⟨w10.heap.size, 0, none⟩) hnO (.slice E0 2 q0)).other (p := ⟨w10.heap.size, 1, none⟩) hnO (.slice E1 2 q1)).other (p := ⟨w10.heap.size, 2, none⟩) hnO (.slice E2 1 q2))
        have hB3 := (((hB2.setCell (p := ⟨w10.heap.size, 0, none⟩) hwB (.slice E0 2 q0)).setCell (p := ⟨w10.heap.size, 1, none⟩) hwB (.slice E1 2 q1)).setCell (p := ⟨w10.heap.size, 2, none⟩) hwB (.slice E2 1 q2))
        have hD3 := (ho2.set3 (a := ⟨w10.heap.size, 0, none⟩) (b := ⟨w10.heap.size, 1, none⟩) (c := ⟨w10.heap.size, 2, none⟩) (x := .slice E0 2 q0) (y := .slice E1 2 q1) (z := .slice E2 1 q2) hwz1 hwz1 hwz1)
        have hwz3 : w10.heap.size < (((wt2.setCell ⟨w10.heap.size, 0, none⟩ (.slice E0 2 q0)).setCell ⟨w10.heap.size, 1, none⟩ (.slice E1 2 q1)).setCell ⟨w10.heap.size, 2, none⟩ (.slice E2 1 q2)).heap.size := by simpa [World.setCell] using hwz2
        go_simp
        refine hK.out _ _ ⟨hXO3.cell 0 rfl, hXO3.cell 1 rfl, hXO3.cell 2 rfl, hXO3.cell 3 rfl, hXO3.cell 4 rfl, hXO3.cell 5 rfl, hXO3.cell 6 rfl⟩ (fun hHeld4 => ?_)
        clear hK K
        try simp only [Act.put]
        try (change wpAnyH _ _ _ _ _ _ _ _ (((wt2.setCell ⟨w10.heap.size, 0, none⟩ (.slice E0 2 q0)).setCell ⟨w10.heap.size, 1, none⟩ (.slice E1 2 q1)).setCell ⟨w10.heap.size, 2, none⟩ (.slice E2 1 q2)))
        generalize (((wt2.setCell ⟨w10.heap.size, 0, none⟩ (.slice E0 2 q0)).setCell ⟨w10.heap.size, 1, none⟩ (.slice E1 2 q1)).setCell ⟨w10.heap.size, 2, none⟩ (.slice E2 1 q2)) = w11 at hXD3 hXR3 hXO3 hB3 hD3 hwz3 ⊢
        refine wpAnyH_done (by kernel_rfl) ?_ _
        go_simp
        clear hXO3
        have XR := Lib.hid hXR3
        have XD := Lib.hid hXD3
        have B := Lib.hid hB3
        have D3 := Lib.hid hD3.reads
        have hw11 := hwz3
        clear hXR3 hXD3 hB3 hD3 hwz3
        obtain ⟨d0, d1, d2⟩ := XD.out.three
        go_wp2_with fail
        refine (ImplDiskFlush_any ⟨[eB, eB], [eB, eB], [⟨0, 1, os⟩]⟩ _ _ _ _ D3.out (short2 (by show 0 ≤ _; omega) (by show 0 ≤ _; omega) (by simp) (by intro x hx; obtain rfl := List.mem_singleton.1 hx; simp only; omega))).mono ?_
        rintro e w12 ⟨u0, u1, ul, rfl, ho, hb⟩
        rw [flush2 (by show 0 ≤ _; omega) (by show 0 ≤ _; omega) (by omega)] at ho
        replace XR := Lib.hid (XR.out.below hb XR.out.lt)
        replace XD := Lib.hid (XD.out.below hb XD.out.lt)
        replace B := Lib.hid (B.out.trans (hb.mono B.out.size))
        have hw12 := Nat.lt_of_lt_of_le hw11 hb.size
        clear hb d0 d1 d2 D3 hw11
        obtain ⟨G0, i0, G1, i1, G2, i2, rfl, rfl, rfl⟩ := ho.forms
        go_wp2_with fail
        refine (ImplDiskWrite_any ⟨[eB, os], [eB, eB], []⟩ 0 1 s _ _ _ _ (by unfold maxLen; omega) ho.reads (short2 (by show 0 ≤ _; omega) (by omega) (by simp) (by simp))).mono ?_
        rintro e w13 ⟨u0, u1, ul, rfl, ho', hb⟩
        clear ho
        rw [write2 (by show 0 ≤ _; omega) (by omega) (by omega)] at ho'
        replace XR := Lib.hid (XR.out.below hb XR.out.lt)
        replace XD := Lib.hid (XD.out.below hb XD.out.lt)
        replace B := Lib.hid (B.out.trans (hb.mono B.out.size))
        have hw13 := Nat.lt_of_lt_of_le hw12 hb.size
        clear hb
        obtain ⟨F0, j0, F1, j1, F2, j2, rfl, rfl, rfl⟩ := ho'.forms
        obtain ⟨d0, d1, d2⟩ := XD.out.three
        have df0 := XD.out.open_ 0
        have df1 := XD.out.open_ 1
        have df2 := XD.out.open_ 2
        have hn15 := Below.new (w := (((w13.setCell ⟨w10.heap.size, 0, none⟩ (.slice F0 2 j0)).setCell ⟨w10.heap.size, 1, none⟩ (.slice F1 2 j1)).setCell ⟨w10.heap.size, 2, none⟩ (.slice F2 1 j2))) (.cells #[.int .i64 2] 3)
        have D14 := Lib.hid ((ho'.set3 (a := ⟨w10.heap.size, 0, none⟩) (b := ⟨w10.heap.size, 1, none⟩) (c := ⟨w10.heap.size, 2, none⟩) (x := .slice F0 2 j0) (y := .slice F1 2 j1) (z := .slice F2 1 j2) hw12 hw12 hw12).reads.below hn15)
        have XD14 := Lib.hid (show Box (((w13.setCell ⟨w10.heap.size, 0, none⟩ (.slice F0 2 j0)).setCell ⟨w10.heap.size, 1, none⟩ (.slice F1 2 j1)).setCell ⟨w10.heap.size, 2, none⟩ (.slice F2 1 j2)) w10.heap.size [.slice F0 2 j0, .slice F1 2 j1, .slice F2 1 j2] from ((XD.out.set 0 (.slice F0 2 j0)).set 1 (.slice F1 2 j1)).set 2 (.slice F2 1 j2))
        have XR15 := Lib.hid ((((XR.out.other (p := ⟨w10.heap.size, 0, none⟩) hnR (.slice F0 2 j0)).other (p := ⟨w10.heap.size, 1, none⟩) hnR (.slice F1 2 j1)).other (p := ⟨w10.heap.size, 2, none⟩) hnR (.slice F2 1 j2)).alloc (.cells #[.int .i64 2] 3))
        have B15 := Lib.hid ((((B.out.setCell (p := ⟨w10.heap.size, 0, none⟩) hwB (.slice F0 2 j0)).setCell (p := ⟨w10.heap.size, 1, none⟩) hwB (.slice F1 2 j1)).setCell (p := ⟨w10.heap.size, 2, none⟩) hwB (.slice F2 1 j2)).trans (hn15.mono (by simpa [World.setCell] using B.out.size)))
        have HF := Lib.hid (sl_int1 (((w13.setCell ⟨w10.heap.size, 0, none⟩ (.slice F0 2 j0)).setCell ⟨w10.heap.size, 1, none⟩ (.slice F1 2 j1)).setCell ⟨w10.heap.size, 2, none⟩ (.slice F2 1 j2)) 2 3)
        have hWs : (((w13.setCell ⟨w10.heap.size, 0, none⟩ (.slice F0 2 j0)).setCell ⟨w10.heap.size, 1, none⟩ (.slice F1 2 j1)).setCell ⟨w10.heap.size, 2, none⟩ (.slice F2 1 j2)).heap.size = w13.heap.size := by simp [World.setCell]
        rw [hWs] at HF
        obtain ⟨dd0, dd1, dd2⟩ := XD14.out.three
        clear ho' hn15 XR B hw12
        go_wp2_with fail
        refine (ImplDiskFall_any ⟨[eB, os], [eB, eB], [⟨0, 1, s⟩]⟩ [2] _ _ _ _ _ D14.out (short2 (by show 0 ≤ _; omega) (by omega) (by simp) (by intro x hx; obtain rfl := List.mem_singleton.1 hx; simp only; omega)) HF.out (by intro b hb; injection hb with hb; subst hb; simp [World.setCell]) (by simp)).mono ?_
        rintro e w16 ⟨u0, u1, ul, rfl, ho, hb⟩
        rw [fall2 (by show 0 ≤ _; omega) (by omega) (by omega)] at ho
        have XR16 := Lib.hid (XR15.out.below hb XR15.out.lt)
        have B16 := Lib.hid (B15.out.trans (hb.mono B15.out.size))
        clear hb d0 d1 d2 df0 df1 df2 dd0 dd1 dd2 D14 XD XD14 HF XR15 B15 hWs
        obtain ⟨bt, ot, ct, rfl, _, hctm, hcell⟩ := ho.reads.r0.form (by simp)
        have tc := hcell 1 (.string (tornM os s)) rfl
        have hfl : ∀ (a b c : Value) (w : World), (Instr.field 36 (.agg #[a, b, c]) 0).run Tryz.prog w = .ok (.agg #[a, b]) w := fun _ _ _ _ => by kernel_rfl
        have hix : ∀ (a b : Value) (w : World), (Instr.index 33 (.agg #[a, b]) (.int .i64 0)).run Tryz.prog w = .ok a w := fun _ _ _ => by kernel_rfl
        unfold maxLen at hctm
        clear ho hcell
        go_wp2_with fail
        refine (implLogRead_any (tornM os s) _ (by omega) (HV.out.below B16.out)).mono ?_
        rintro e w17 ⟨hb, h⟩
        have XR17 := Lib.hid (XR16.out.below hb XR16.out.lt)
        have B17 := Lib.hid (B16.out.trans (hb.mono B16.out.size))
        clear hb XR16 B16 tc
        rcases h with ⟨zz, hz, rfl⟩ | ⟨_, rfl⟩
        · obtain rfl := HTORN.out zz hz
          have heq := eqlRec zz
          have XR18 := Lib.hid (XR17.out.alloc (.cells #[.int .i64 zz.txg, .int .i64 zz.seq, .int .i64 zz.kind, .string zz.a, .string zz.b, .int .i64 zz.i, .string zz.text] 26))
          have YR18 := Lib.hid (box_new w17 #[.int .i64 zz.txg, .int .i64 zz.seq, .int .i64 zz.kind, .string zz.a, .string zz.b, .int .i64 zz.i, .string zz.text] 26)
          have B18 := Lib.hid (B17.out.alloc B17.out.size (.cells #[.int .i64 zz.txg, .int .i64 zz.seq, .int .i64 zz.kind, .string zz.a, .string zz.b, .int .i64 zz.i, .string zz.text] 26))
          clear XR17 B17
          have xa0 := XR18.out.cell 0 rfl
          have ya0 := YR18.out.cell 0 rfl
          have xa1 := XR18.out.cell 1 rfl
          have ya1 := YR18.out.cell 1 rfl
          have xa2 := XR18.out.cell 2 rfl
          have ya2 := YR18.out.cell 2 rfl
          have xa3 := XR18.out.cell 3 rfl
          have ya3 := YR18.out.cell 3 rfl
          have xa4 := XR18.out.cell 4 rfl
          have ya4 := YR18.out.cell 4 rfl
          have xa5 := XR18.out.cell 5 rfl
          have ya5 := YR18.out.cell 5 rfl
          have xa6 := XR18.out.cell 6 rfl
          have ya6 := YR18.out.cell 6 rfl
          go_wp2
          go_ret
          exact ⟨rfl, B18.out⟩
        · have B18 := Lib.hid (B17.out.alloc B17.out.size (.cells #[.int .i64 0, .int .i64 0, .int .i64 0, .string ⟨#[]⟩, .string ⟨#[]⟩, .int .i64 0, .string ⟨#[]⟩] 26))
          go_wp2
          go_ret
          exact ⟨rfl, B18.out⟩
    case true =>
      have HLT := Lib.hid (show logText y = tx from by
        rcases HY.out with ⟨_, hy⟩ | ⟨h, _⟩
        · exact hy.2
        · cases h)
      have HYK := Lib.hid (show RecOk y from by
        rcases HY.out with ⟨_, hy⟩ | ⟨h, _⟩
        · exact hy.1
        · cases h)
      have hya : y.a.size ≤ maxLen := by unfold maxLen; have := HYK.out.2.2.1.2.1; omega
      have hyt : y.text.size ≤ maxLen := by unfold maxLen; have := HYK.out.2.2.2.2.2; omega
      clear HY HYK
      have v0 := XY.out.cell 0 rfl
      have v1 := XY.out.cell 1 rfl
      have v2 := XY.out.cell 2 rfl
      have v3 := XY.out.cell 3 rfl
      have v4 := XY.out.cell 4 rfl
      have v5 := XY.out.cell 5 rfl
      have v6 := XY.out.cell 6 rfl
      go_wp2_with fail
      refine (implLog_is y tx _ hya hyt (HV.out.below B.out).libs.pow (HV.out.below B.out).tab HLT.out).mono ?_
      rintro e w8 ⟨rfl, hb⟩
      replace XR := Lib.hid (XR.out.below hb XR.out.lt)
      replace XX := Lib.hid (XX.out.below hb XX.out.lt)
      replace XY := Lib.hid (XY.out.below hb XY.out.lt)
      replace B := Lib.hid (B.out.trans (hb.mono B.out.size))
      clear hb v0 v1 v2 v3 v4 v5 v6
      have htt : (tx.toList == tx.toList) = true := by simp
      have CB := Lib.hid (HC.out.below B.out)
      go_wp2_with fail
      refine (drawLogText_any C m e0 _ CB.out).mono ?_
      rintro e w9 ⟨o, hom, rfl, hb⟩
      replace XR := Lib.hid (XR.out.below hb XR.out.lt)
      replace XX := Lib.hid (XX.out.below hb XX.out.lt)
      replace XY := Lib.hid (XY.out.below hb XY.out.lt)
      replace B := Lib.hid (B.out.trans (hb.mono B.out.size))
      clear hb CB
      have hn := Below.new (w := w9) (.cells #[.int .i64 o.txg, .int .i64 o.seq, .int .i64 o.kind, .string o.a, .string o.b, .int .i64 o.i, .string o.text] 26)
      replace XR := Lib.hid (XR.out.below hn XR.out.lt)
      replace XX := Lib.hid (XX.out.below hn XX.out.lt)
      replace XY := Lib.hid (XY.out.below hn XY.out.lt)
      replace B := Lib.hid (B.out.trans (hn.mono B.out.size))
      clear hn
      have XO := Lib.hid (box_new w9 #[.int .i64 o.txg, .int .i64 o.seq, .int .i64 o.kind, .string o.a, .string o.b, .int .i64 o.i, .string o.text] 26)
      have hoa : o.a.size ≤ maxLen := by unfold maxLen; have := hom.1; omega
      have hot : o.text.size ≤ maxLen := by unfold maxLen; have := hom.2.2; omega
      clear hom
      have o0 := XO.out.cell 0 rfl
      have r0 := XR.out.cell 0 rfl
      by_cases htg : o.txg = r.txg
      · have htq : (o.txg == r.txg) = true := by simp [htg]
        clear htg
        go_wp2
        go_ret
        exact ⟨rfl, B.out⟩
      have htq : (o.txg == r.txg) = false := by simpa using htg
      obtain ⟨os, HOS⟩ : ∃ os, Hid (logText o = os) := ⟨_, Lib.hid rfl⟩
      have hosz : os.size ≤ 200 := by rw [← HOS.out]; exact logText_size o
      have HTORN := Lib.hid (show ∀ z, LSpells (tornM os s) z → z = r from fun z hz => by
        rw [← HS.out] at hz
        refine torn_spells hok ?_ hz
        by_cases hk : RecOk o
        · exact Or.inr ⟨o, hk, HOS.out.symm, htg⟩
        · exact Or.inl (by rw [← HOS.out, log_of_no hk]))
      have htz : (tornM os s).size ≤ 200 := tornM_size hosz hsz
      clear htg
      go_wp2_with fail
      refine (ImplDiskOpen_any 2 _ (by omega) (by omega)).mono ?_
      rintro e w10 ⟨v0, v1, vl, rfl, ho, hb⟩
      replace XR := Lib.hid (XR.out.below hb XR.out.lt)
      replace XX := Lib.hid (XX.out.below hb XX.out.lt)
      replace XY := Lib.hid (XY.out.below hb XY.out.lt)
      replace XO := Lib.hid (XO.out.below hb XO.out.lt)
      replace B := Lib.hid (B.out.trans (hb.mono B.out.size))
      clear hb o0 r0
      rw [open2] at ho
      have hnR : w1.heap.size ≠ w10.heap.size := by have := XR.out.lt; omega
      have hnO : w9.heap.size ≠ w10.heap.size := by have := XO.out.lt; omega
      have hwB : w.heap.size ≤ w10.heap.size := B.out.size
      obtain ⟨A0, k0, A1, k1, A2, k2, rfl, rfl, rfl⟩ := ho.forms
      have HD := Lib.hid (ho.reads.below (Below.new (w := w10) (.cells #[.slice A0 2 k0, .slice A1 2 k1, .slice A2 0 k2] 36)))
      clear ho
      have hn := Below.new (w := w10) (.cells #[.slice A0 2 k0, .slice A1 2 k1, .slice A2 0 k2] 36)
      replace XR := Lib.hid (XR.out.below hn XR.out.lt)
      replace XX := Lib.hid (XX.out.below hn XX.out.lt)
      replace XY := Lib.hid (XY.out.below hn XY.out.lt)
      replace XO := Lib.hid (XO.out.below hn XO.out.lt)
      replace B := Lib.hid (B.out.trans (hn.mono B.out.size))
      clear hn
      have XD := Lib.hid (box_new w10 #[.slice A0 2 k0, .slice A1 2 k1, .slice A2 0 k2] 36)
      have hwD : w10.heap.size < (w10.alloc (.cells #[.slice A0 2 k0, .slice A1 2 k1, .slice A2 0 k2] 36)).heap.size := by simp
      go_wp2_with fail
      have hXR0 := XR.out.drew
      have hXO0 := XO.out.drew
      have hXD0 := XD.out.drew
      have hB0 := B.out.drew
      have hHD0 := HD.out.below (Below.drew (Below.refl _ (w10.alloc (.cells #[.slice A0 2 k0, .slice A1 2 k1, .slice A2 0 k2] 36))))
      refine wp_region_held_drew (S := fun w' => w'.cell? ⟨w9.heap.size, 0, none⟩ = some (.int .i64 o.txg) ∧ w'.cell? ⟨w9.heap.size, 1, none⟩ = some (.int .i64 o.seq) ∧ w'.cell? ⟨w9.heap.size, 2, none⟩ = some (.int .i64 o.kind) ∧ w'.cell? ⟨w9.heap.size, 3, none⟩ = some (.string o.a) ∧ w'.cell? ⟨w9.heap.size, 4, none⟩ = some (.string o.b) ∧ w'.cell? ⟨w9.heap.size, 5, none⟩ = some (.int .i64 o.i) ∧ w'.cell? ⟨w9.heap.size, 6, none⟩ = some (.string o.text)) (by kernel_rfl) ⟨XO.out.cell 0 rfl, XO.out.cell 1 rfl, XO.out.cell 2 rfl, XO.out.cell 3 rfl, XO.out.cell 4 rfl, XO.out.cell 5 rfl, XO.out.cell 6 rfl⟩ (fun hHeld => ?_)
      have hwz0 : w10.heap.size < (w10.alloc (.cells #[.slice A0 2 k0, .slice A1 2 k1, .slice A2 0 k2] 36)).drew.heap.size := hwD
      generalize (w10.alloc (.cells #[.slice A0 2 k0, .slice A1 2 k1, .slice A2 0 k2] 36)).drew = wd at hHeld hXR0 hXO0 hXD0 hB0 hHD0 hwz0 ⊢
      refine wpAnyH_take (i := 1) (v := ?_) rfl (by kernel_rfl) (by kernel_rfl) (by kernel_rfl) (fun _ _ _ h => h) (Or.inl ⟨by rfl, ?_⟩) (by assumption) ?_
      rotate_left
      · (intro w' hSw; (try dsimp only at hSw); obtain ⟨hc0, hc1, hc2, hc3, hc4, hc5, hc6⟩ := hSw; go_simp; try with_reducible rfl)
      try simp only [Act.put]
      refine wpAnyH_ready (rs := [0, 2]) (by kernel_rfl) (by simp) ?_
      refine AllReadyH.cons rfl (fun K hK => ?_) (AllReadyH.cons rfl (fun K hK => ?_) (AllReadyH.nil))
      · have hway : True := trivial
        obtain ⟨x0, x1, x2⟩ := Box.three hXD0
        go_simp
        refine hK.out _ _ ⟨hXO0.cell 0 rfl, hXO0.cell 1 rfl, hXO0.cell 2 rfl, hXO0.cell 3 rfl, hXO0.cell 4 rfl, hXO0.cell 5 rfl, hXO0.cell 6 rfl⟩ (fun hHeld1 => ?_)
        clear hK K
        try simp only [Act.put]
        refine wpAnyH_ready (rs := [2]) (by kernel_rfl) (by simp) ?_
        refine AllReadyH.cons rfl (fun K hK => ?_) (AllReadyH.nil)
        go_simp
        go_at_call 7
        refine (implLog_is o os _ hoa hot (HV.out.below hB0).libs.pow (HV.out.below hB0).tab HOS.out).mono ?_
        rintro e wt1 ⟨rfl, hb1⟩
        have hXR1 := hXR0.below hb1 hXR0.lt
        have hXO1 := hXO0.below hb1 hXO0.lt
        have hXD1 := hXD0.below hb1 hXD0.lt
        have hB1 := hB0.trans (hb1.mono hB0.size)
        have hHD1 := hHD0.below hb1
        have hwz1 := Nat.lt_of_lt_of_le hwz0 hb1.size
        go_wp2_with fail
        refine hK.out _ _ ⟨hXO1.cell 0 rfl, hXO1.cell 1 rfl, hXO1.cell 2 rfl, hXO1.cell 3 rfl, hXO1.cell 4 rfl, hXO1.cell 5 rfl, hXO1.cell 6 rfl⟩ (fun hHeld2 => ?_)
        clear hK K
        try simp only [Act.put]
        refine wpAnyH_ready (rs := [3]) (by kernel_rfl) (by simp) ?_
        refine AllReadyH.cons rfl (fun K hK => ?_) (AllReadyH.nil)
        go_simp
        go_at_call 13
        refine (ImplDiskWrite_any ⟨[eB, eB], [eB, eB], []⟩ 0 1 os _ _ _ _ (by unfold maxLen; omega) hHD1 (short2 (by show 0 ≤ _; omega) (by show 0 ≤ _; omega) (by simp) (by simp))).mono ?_
        rintro e wt2 ⟨u0, u1, ul, rfl, ho2, hb2⟩
        rw [write2 (by show 0 ≤ _; omega) (by show 0 ≤ _; omega) (by omega)] at ho2
        obtain ⟨E0, q0, E1, q1, E2, q2, rfl, rfl, rfl⟩ := ho2.forms
        have hXR2 := hXR1.below hb2 hXR1.lt
        have hXO2 := hXO1.below hb2 hXO1.lt
        have hXD2 := hXD1.below hb2 hXD1.lt
        have hB2 := hB1.trans (hb2.mono hB1.size)
        have hwz2 := Nat.lt_of_lt_of_le hwz1 hb2.size
        go_wp2_with fail
        refine hK.out _ _ ⟨hXO2.cell 0 rfl, hXO2.cell 1 rfl, hXO2.cell 2 rfl, hXO2.cell 3 rfl, hXO2.cell 4 rfl, hXO2.cell 5 rfl, hXO2.cell 6 rfl⟩ (fun hHeld3 => ?_)
        clear hK K
        try simp only [Act.put]
        refine wpAnyH_take (i := 4) (v := ?_) rfl (by kernel_rfl) (by kernel_rfl) (by kernel_rfl) (fun _ _ _ h => h) (Or.inl ⟨by rfl, ?_⟩) (by assumption) ?_
        rotate_left
        · (intro w' hSw; (try dsimp only at hSw); obtain ⟨hc0, hc1, hc2, hc3, hc4, hc5, hc6⟩ := hSw; go_simp; try with_reducible rfl)
        try simp only [Act.put]
        refine wpAnyH_take (i := 5) (v := ?_) rfl (by kernel_rfl) (by kernel_rfl) (by kernel_rfl) (fun _ _ _ h => h) (Or.inl ⟨by rfl, ?_⟩) (by assumption) ?_
        rotate_left
        · (intro w' hSw; (try dsimp only at hSw); obtain ⟨hc0, hc1, hc2, hc3, hc4, hc5, hc6⟩ := hSw; go_simp; try with_reducible rfl)
        try simp only [Act.put]
        refine wpAnyH_take (i := 6) (v := ?_) rfl (by kernel_rfl) (by kernel_rfl) (by kernel_rfl) (fun _ _ _ h => h) (Or.inl ⟨by rfl, ?_⟩) (by assumption) ?_
        rotate_left
        · (intro w' hSw; (try dsimp only at hSw); obtain ⟨hc0, hc1, hc2, hc3, hc4, hc5, hc6⟩ := hSw; go_simp; try with_reducible rfl)
        try simp only [Act.put]
        refine wpAnyH_ready (rs := [7]) (by kernel_rfl) (by simp) ?_
        refine AllReadyH.cons rfl (fun K hK => ?_) (AllReadyH.nil)
        obtain ⟨g0, g1, g2⟩ := Box.three hXD2
        have gf0 := hXD2.open_ 0
        have gf1 := hXD2.open_ 1
        have gf2 := hXD2.open_ 2
        have hXD3 : Box (((wt2.setCell ⟨w10.heap.size, 0, none⟩ (.slice E0 2 q0)).setCell ⟨w10.heap.size, 1, none⟩ (.slice E1 2 q1)).setCell ⟨w10.heap.size, 2, none⟩ (.slice E2 1 q2)) w10.heap.size [.slice E0 2 q0, .slice E1 2 q1, .slice E2 1 q2] := (((hXD2.set 0 (.slice E0 2 q0)).set 1 (.slice E1 2 q1)).set 2 (.slice E2 1 q2))
        have hXR3 := (((hXR2.other (p := ⟨w10.heap.size, 0, none⟩) hnR (.slice E0 2 q0)).other (p := ⟨w10.heap.size, 1, none⟩) hnR (.slice E1 2 q1)).other (p := ⟨w10.heap.size, 2, none⟩) hnR (.slice E2 1 q2))
        have hXO3 := (((hXO2.other (p := ⟨w10.heap.size, 0, none⟩) hnO (.slice E0 2 q0)).other (p := ⟨w10.heap.size, 1, none⟩) hnO (.slice E1 2 q1)).other (p := ⟨w10.heap.size, 2, none⟩) hnO (.slice E2 1 q2))
        have hB3 := (((hB2.setCell (p := ⟨w10.heap.size, 0, none⟩) hwB (.slice E0 2 q0)).setCell (p := ⟨w10.heap.size, 1, none⟩) hwB (.slice E1 2 q1)).setCell (p := ⟨w10.heap.size, 2, none⟩) hwB (.slice E2 1 q2))
        have hD3 := (ho2.set3 (a := ⟨w10.heap.size, 0, none⟩) (b := ⟨w10.heap.size, 1, none⟩) (c := ⟨w10.heap.size, 2, none⟩) (x := .slice E0 2 q0) (y := .slice E1 2 q1) (z := .slice E2 1 q2) hwz1 hwz1 hwz1)
        have hwz3 : w10.heap.size < (((wt2.setCell ⟨w10.heap.size, 0, none⟩ (.slice E0 2 q0)).setCell ⟨w10.heap.size, 1, none⟩ (.slice E1 2 q1)).setCell ⟨w10.heap.size, 2, none⟩ (.slice E2 1 q2)).heap.size := by simpa [World.setCell] using hwz2
        go_simp
        refine hK.out _ _ ⟨hXO3.cell 0 rfl, hXO3.cell 1 rfl, hXO3.cell 2 rfl, hXO3.cell 3 rfl, hXO3.cell 4 rfl, hXO3.cell 5 rfl, hXO3.cell 6 rfl⟩ (fun hHeld4 => ?_)
        clear hK K
        try simp only [Act.put]
        try (change wpAnyH _ _ _ _ _ _ _ _ (((wt2.setCell ⟨w10.heap.size, 0, none⟩ (.slice E0 2 q0)).setCell ⟨w10.heap.size, 1, none⟩ (.slice E1 2 q1)).setCell ⟨w10.heap.size, 2, none⟩ (.slice E2 1 q2)))
        generalize (((wt2.setCell ⟨w10.heap.size, 0, none⟩ (.slice E0 2 q0)).setCell ⟨w10.heap.size, 1, none⟩ (.slice E1 2 q1)).setCell ⟨w10.heap.size, 2, none⟩ (.slice E2 1 q2)) = w11 at hXD3 hXR3 hXO3 hB3 hD3 hwz3 ⊢
        refine wpAnyH_done (by kernel_rfl) ?_ _
        go_simp
        clear hXO3
        have XR := Lib.hid hXR3
        have XD := Lib.hid hXD3
        have B := Lib.hid hB3
        have D3 := Lib.hid hD3.reads
        have hw11 := hwz3
        clear hXR3 hXD3 hB3 hD3 hwz3
        obtain ⟨d0, d1, d2⟩ := XD.out.three
        go_wp2_with fail
        refine (ImplDiskFlush_any ⟨[eB, eB], [eB, eB], [⟨0, 1, os⟩]⟩ _ _ _ _ D3.out (short2 (by show 0 ≤ _; omega) (by show 0 ≤ _; omega) (by simp) (by intro x hx; obtain rfl := List.mem_singleton.1 hx; simp only; omega))).mono ?_
        rintro e w12 ⟨u0, u1, ul, rfl, ho, hb⟩
        rw [flush2 (by show 0 ≤ _; omega) (by show 0 ≤ _; omega) (by omega)] at ho
        replace XR := Lib.hid (XR.out.below hb XR.out.lt)
        replace XD := Lib.hid (XD.out.below hb XD.out.lt)
        replace B := Lib.hid (B.out.trans (hb.mono B.out.size))
        have hw12 := Nat.lt_of_lt_of_le hw11 hb.size
        clear hb d0 d1 d2 D3 hw11
        obtain ⟨G0, i0, G1, i1, G2, i2, rfl, rfl, rfl⟩ := ho.forms
        go_wp2_with fail
        refine (ImplDiskWrite_any ⟨[eB, os], [eB, eB], []⟩ 0 1 s _ _ _ _ (by unfold maxLen; omega) ho.reads (short2 (by show 0 ≤ _; omega) (by omega) (by simp) (by simp))).mono ?_
        rintro e w13 ⟨u0, u1, ul, rfl, ho', hb⟩
        clear ho
        rw [write2 (by show 0 ≤ _; omega) (by omega) (by omega)] at ho'
        replace XR := Lib.hid (XR.out.below hb XR.out.lt)
        replace XD := Lib.hid (XD.out.below hb XD.out.lt)
        replace B := Lib.hid (B.out.trans (hb.mono B.out.size))
        have hw13 := Nat.lt_of_lt_of_le hw12 hb.size
        clear hb
        obtain ⟨F0, j0, F1, j1, F2, j2, rfl, rfl, rfl⟩ := ho'.forms
        obtain ⟨d0, d1, d2⟩ := XD.out.three
        have df0 := XD.out.open_ 0
        have df1 := XD.out.open_ 1
        have df2 := XD.out.open_ 2
        have hn15 := Below.new (w := (((w13.setCell ⟨w10.heap.size, 0, none⟩ (.slice F0 2 j0)).setCell ⟨w10.heap.size, 1, none⟩ (.slice F1 2 j1)).setCell ⟨w10.heap.size, 2, none⟩ (.slice F2 1 j2))) (.cells #[.int .i64 2] 3)
        have D14 := Lib.hid ((ho'.set3 (a := ⟨w10.heap.size, 0, none⟩) (b := ⟨w10.heap.size, 1, none⟩) (c := ⟨w10.heap.size, 2, none⟩) (x := .slice F0 2 j0) (y := .slice F1 2 j1) (z := .slice F2 1 j2) hw12 hw12 hw12).reads.below hn15)
        have XD14 := Lib.hid (show Box (((w13.setCell ⟨w10.heap.size, 0, none⟩ (.slice F0 2 j0)).setCell ⟨w10.heap.size, 1, none⟩ (.slice F1 2 j1)).setCell ⟨w10.heap.size, 2, none⟩ (.slice F2 1 j2)) w10.heap.size [.slice F0 2 j0, .slice F1 2 j1, .slice F2 1 j2] from ((XD.out.set 0 (.slice F0 2 j0)).set 1 (.slice F1 2 j1)).set 2 (.slice F2 1 j2))
        have XR15 := Lib.hid ((((XR.out.other (p := ⟨w10.heap.size, 0, none⟩) hnR (.slice F0 2 j0)).other (p := ⟨w10.heap.size, 1, none⟩) hnR (.slice F1 2 j1)).other (p := ⟨w10.heap.size, 2, none⟩) hnR (.slice F2 1 j2)).alloc (.cells #[.int .i64 2] 3))
        have B15 := Lib.hid ((((B.out.setCell (p := ⟨w10.heap.size, 0, none⟩) hwB (.slice F0 2 j0)).setCell (p := ⟨w10.heap.size, 1, none⟩) hwB (.slice F1 2 j1)).setCell (p := ⟨w10.heap.size, 2, none⟩) hwB (.slice F2 1 j2)).trans (hn15.mono (by simpa [World.setCell] using B.out.size)))
        have HF := Lib.hid (sl_int1 (((w13.setCell ⟨w10.heap.size, 0, none⟩ (.slice F0 2 j0)).setCell ⟨w10.heap.size, 1, none⟩ (.slice F1 2 j1)).setCell ⟨w10.heap.size, 2, none⟩ (.slice F2 1 j2)) 2 3)
        have hWs : (((w13.setCell ⟨w10.heap.size, 0, none⟩ (.slice F0 2 j0)).setCell ⟨w10.heap.size, 1, none⟩ (.slice F1 2 j1)).setCell ⟨w10.heap.size, 2, none⟩ (.slice F2 1 j2)).heap.size = w13.heap.size := by simp [World.setCell]
        rw [hWs] at HF
        obtain ⟨dd0, dd1, dd2⟩ := XD14.out.three
        clear ho' hn15 XR B hw12
        go_wp2_with fail
        refine (ImplDiskFall_any ⟨[eB, os], [eB, eB], [⟨0, 1, s⟩]⟩ [2] _ _ _ _ _ D14.out (short2 (by show 0 ≤ _; omega) (by omega) (by simp) (by intro x hx; obtain rfl := List.mem_singleton.1 hx; simp only; omega)) HF.out (by intro b hb; injection hb with hb; subst hb; simp [World.setCell]) (by simp)).mono ?_
        rintro e w16 ⟨u0, u1, ul, rfl, ho, hb⟩
        rw [fall2 (by show 0 ≤ _; omega) (by omega) (by omega)] at ho
        have XR16 := Lib.hid (XR15.out.below hb XR15.out.lt)
        have B16 := Lib.hid (B15.out.trans (hb.mono B15.out.size))
        clear hb d0 d1 d2 df0 df1 df2 dd0 dd1 dd2 D14 XD XD14 HF XR15 B15 hWs
        obtain ⟨bt, ot, ct, rfl, _, hctm, hcell⟩ := ho.reads.r0.form (by simp)
        have tc := hcell 1 (.string (tornM os s)) rfl
        have hfl : ∀ (a b c : Value) (w : World), (Instr.field 36 (.agg #[a, b, c]) 0).run Tryz.prog w = .ok (.agg #[a, b]) w := fun _ _ _ _ => by kernel_rfl
        have hix : ∀ (a b : Value) (w : World), (Instr.index 33 (.agg #[a, b]) (.int .i64 0)).run Tryz.prog w = .ok a w := fun _ _ _ => by kernel_rfl
        unfold maxLen at hctm
        clear ho hcell
        go_wp2_with fail
        refine (implLogRead_any (tornM os s) _ (by omega) (HV.out.below B16.out)).mono ?_
        rintro e w17 ⟨hb, h⟩
        have XR17 := Lib.hid (XR16.out.below hb XR16.out.lt)
        have B17 := Lib.hid (B16.out.trans (hb.mono B16.out.size))
        clear hb XR16 B16 tc
        rcases h with ⟨zz, hz, rfl⟩ | ⟨_, rfl⟩
        · obtain rfl := HTORN.out zz hz
          have heq := eqlRec zz
          have XR18 := Lib.hid (XR17.out.alloc (.cells #[.int .i64 zz.txg, .int .i64 zz.seq, .int .i64 zz.kind, .string zz.a, .string zz.b, .int .i64 zz.i, .string zz.text] 26))
          have YR18 := Lib.hid (box_new w17 #[.int .i64 zz.txg, .int .i64 zz.seq, .int .i64 zz.kind, .string zz.a, .string zz.b, .int .i64 zz.i, .string zz.text] 26)
          have B18 := Lib.hid (B17.out.alloc B17.out.size (.cells #[.int .i64 zz.txg, .int .i64 zz.seq, .int .i64 zz.kind, .string zz.a, .string zz.b, .int .i64 zz.i, .string zz.text] 26))
          clear XR17 B17
          have xa0 := XR18.out.cell 0 rfl
          have ya0 := YR18.out.cell 0 rfl
          have xa1 := XR18.out.cell 1 rfl
          have ya1 := YR18.out.cell 1 rfl
          have xa2 := XR18.out.cell 2 rfl
          have ya2 := YR18.out.cell 2 rfl
          have xa3 := XR18.out.cell 3 rfl
          have ya3 := YR18.out.cell 3 rfl
          have xa4 := XR18.out.cell 4 rfl
          have ya4 := YR18.out.cell 4 rfl
          have xa5 := XR18.out.cell 5 rfl
          have ya5 := YR18.out.cell 5 rfl
          have xa6 := XR18.out.cell 6 rfl
          have ya6 := YR18.out.cell 6 rfl
          go_wp2
          go_ret
          exact ⟨rfl, B18.out⟩
        · have B18 := Lib.hid (B17.out.alloc B17.out.size (.cells #[.int .i64 0, .int .i64 0, .int .i64 0, .string ⟨#[]⟩, .string ⟨#[]⟩, .int .i64 0, .string ⟨#[]⟩] 26))
          go_wp2
          go_ret
          exact ⟨rfl, B18.out⟩
      · have hway : True := trivial
        go_simp
        go_at_call 7
        refine (implLog_is o os _ hoa hot (HV.out.below hB0).libs.pow (HV.out.below hB0).tab HOS.out).mono ?_
        rintro e wt1 ⟨rfl, hb1⟩
        have hXR1 := hXR0.below hb1 hXR0.lt
        have hXO1 := hXO0.below hb1 hXO0.lt
        have hXD1 := hXD0.below hb1 hXD0.lt
        have hB1 := hB0.trans (hb1.mono hB0.size)
        have hHD1 := hHD0.below hb1
        have hwz1 := Nat.lt_of_lt_of_le hwz0 hb1.size
        go_wp2_with fail
        refine hK.out _ _ ⟨hXO1.cell 0 rfl, hXO1.cell 1 rfl, hXO1.cell 2 rfl, hXO1.cell 3 rfl, hXO1.cell 4 rfl, hXO1.cell 5 rfl, hXO1.cell 6 rfl⟩ (fun hHeld1 => ?_)
        clear hK K
        try simp only [Act.put]
        refine wpAnyH_ready (rs := [0]) (by kernel_rfl) (by simp) ?_
        refine AllReadyH.cons rfl (fun K hK => ?_) (AllReadyH.nil)
        obtain ⟨x0, x1, x2⟩ := Box.three hXD1
        go_simp
        refine hK.out _ _ ⟨hXO1.cell 0 rfl, hXO1.cell 1 rfl, hXO1.cell 2 rfl, hXO1.cell 3 rfl, hXO1.cell 4 rfl, hXO1.cell 5 rfl, hXO1.cell 6 rfl⟩ (fun hHeld2 => ?_)
        clear hK K
        try simp only [Act.put]
        refine wpAnyH_ready (rs := [3]) (by kernel_rfl) (by simp) ?_
        refine AllReadyH.cons rfl (fun K hK => ?_) (AllReadyH.nil)
        go_simp
        go_at_call 13
        refine (ImplDiskWrite_any ⟨[eB, eB], [eB, eB], []⟩ 0 1 os _ _ _ _ (by unfold maxLen; omega) hHD1 (short2 (by show 0 ≤ _; omega) (by show 0 ≤ _; omega) (by simp) (by simp))).mono ?_
        rintro e wt2 ⟨u0, u1, ul, rfl, ho2, hb2⟩
        rw [write2 (by show 0 ≤ _; omega) (by show 0 ≤ _; omega) (by omega)] at ho2
        obtain ⟨E0, q0, E1, q1, E2, q2, rfl, rfl, rfl⟩ := ho2.forms
        have hXR2 := hXR1.below hb2 hXR1.lt
        have hXO2 := hXO1.below hb2 hXO1.lt
        have hXD2 := hXD1.below hb2 hXD1.lt
        have hB2 := hB1.trans (hb2.mono hB1.size)
        have hwz2 := Nat.lt_of_lt_of_le hwz1 hb2.size
        go_wp2_with fail
        refine hK.out _ _ ⟨hXO2.cell 0 rfl, hXO2.cell 1 rfl, hXO2.cell 2 rfl, hXO2.cell 3 rfl, hXO2.cell 4 rfl, hXO2.cell 5 rfl, hXO2.cell 6 rfl⟩ (fun hHeld3 => ?_)
        clear hK K
        try simp only [Act.put]
        refine wpAnyH_take (i := 4) (v := ?_) rfl (by kernel_rfl) (by kernel_rfl) (by kernel_rfl) (fun _ _ _ h => h) (Or.inl ⟨by rfl, ?_⟩) (by assumption) ?_
        rotate_left
        · (intro w' hSw; (try dsimp only at hSw); obtain ⟨hc0, hc1, hc2, hc3, hc4, hc5, hc6⟩ := hSw; go_simp; try with_reducible rfl)
        try simp only [Act.put]
        refine wpAnyH_take (i := 5) (v := ?_) rfl (by kernel_rfl) (by kernel_rfl) (by kernel_rfl) (fun _ _ _ h => h) (Or.inl ⟨by rfl, ?_⟩) (by assumption) ?_
        rotate_left
        · (intro w' hSw; (try dsimp only at hSw); obtain ⟨hc0, hc1, hc2, hc3, hc4, hc5, hc6⟩ := hSw; go_simp; try with_reducible rfl)
        try simp only [Act.put]
        refine wpAnyH_take (i := 6) (v := ?_) rfl (by kernel_rfl) (by kernel_rfl) (by kernel_rfl) (fun _ _ _ h => h) (Or.inl ⟨by rfl, ?_⟩) (by assumption) ?_
        rotate_left
        · (intro w' hSw; (try dsimp only at hSw); obtain ⟨hc0, hc1, hc2, hc3, hc4, hc5, hc6⟩ := hSw; go_simp; try with_reducible rfl)
        try simp only [Act.put]
        refine wpAnyH_ready (rs := [7]) (by kernel_rfl) (by simp) ?_
        refine AllReadyH.cons rfl (fun K hK => ?_) (AllReadyH.nil)
        obtain ⟨g0, g1, g2⟩ := Box.three hXD2
        have gf0 := hXD2.open_ 0
        have gf1 := hXD2.open_ 1
        have gf2 := hXD2.open_ 2
        have hXD3 : Box (((wt2.setCell ⟨w10.heap.size, 0, none⟩ (.slice E0 2 q0)).setCell ⟨w10.heap.size, 1, none⟩ (.slice E1 2 q1)).setCell ⟨w10.heap.size, 2, none⟩ (.slice E2 1 q2)) w10.heap.size [.slice E0 2 q0, .slice E1 2 q1, .slice E2 1 q2] := (((hXD2.set 0 (.slice E0 2 q0)).set 1 (.slice E1 2 q1)).set 2 (.slice E2 1 q2))
        have hXR3 := (((hXR2.other (p := ⟨w10.heap.size, 0, none⟩) hnR (.slice E0 2 q0)).other (p := ⟨w10.heap.size, 1, none⟩) hnR (.slice E1 2 q1)).other (p := ⟨w10.heap.size, 2, none⟩) hnR (.slice E2 1 q2))
        have hXO3 := (((hXO2.other (p := ⟨w10.heap.size, 0, none⟩) hnO (.slice E0 2 q0)).other (p := ⟨w10.heap.size, 1, none⟩) hnO (.slice E1 2 q1)).other (p := ⟨w10.heap.size, 2, none⟩) hnO (.slice E2 1 q2))
        have hB3 := (((hB2.setCell (p := ⟨w10.heap.size, 0, none⟩) hwB (.slice E0 2 q0)).setCell (p := ⟨w10.heap.size, 1, none⟩) hwB (.slice E1 2 q1)).setCell (p := ⟨w10.heap.size, 2, none⟩) hwB (.slice E2 1 q2))
        have hD3 := (ho2.set3 (a := ⟨w10.heap.size, 0, none⟩) (b := ⟨w10.heap.size, 1, none⟩) (c := ⟨w10.heap.size, 2, none⟩) (x := .slice E0 2 q0) (y := .slice E1 2 q1) (z := .slice E2 1 q2) hwz1 hwz1 hwz1)
        have hwz3 : w10.heap.size < (((wt2.setCell ⟨w10.heap.size, 0, none⟩ (.slice E0 2 q0)).setCell ⟨w10.heap.size, 1, none⟩ (.slice E1 2 q1)).setCell ⟨w10.heap.size, 2, none⟩ (.slice E2 1 q2)).heap.size := by simpa [World.setCell] using hwz2
        go_simp
        refine hK.out _ _ ⟨hXO3.cell 0 rfl, hXO3.cell 1 rfl, hXO3.cell 2 rfl, hXO3.cell 3 rfl, hXO3.cell 4 rfl, hXO3.cell 5 rfl, hXO3.cell 6 rfl⟩ (fun hHeld4 => ?_)
        clear hK K
        try simp only [Act.put]
        try (change wpAnyH _ _ _ _ _ _ _ _ (((wt2.setCell ⟨w10.heap.size, 0, none⟩ (.slice E0 2 q0)).setCell ⟨w10.heap.size, 1, none⟩ (.slice E1 2 q1)).setCell ⟨w10.heap.size, 2, none⟩ (.slice E2 1 q2)))
        generalize (((wt2.setCell ⟨w10.heap.size, 0, none⟩ (.slice E0 2 q0)).setCell ⟨w10.heap.size, 1, none⟩ (.slice E1 2 q1)).setCell ⟨w10.heap.size, 2, none⟩ (.slice E2 1 q2)) = w11 at hXD3 hXR3 hXO3 hB3 hD3 hwz3 ⊢
        refine wpAnyH_done (by kernel_rfl) ?_ _
        go_simp
        clear hXO3
        have XR := Lib.hid hXR3
        have XD := Lib.hid hXD3
        have B := Lib.hid hB3
        have D3 := Lib.hid hD3.reads
        have hw11 := hwz3
        clear hXR3 hXD3 hB3 hD3 hwz3
        obtain ⟨d0, d1, d2⟩ := XD.out.three
        go_wp2_with fail
        refine (ImplDiskFlush_any ⟨[eB, eB], [eB, eB], [⟨0, 1, os⟩]⟩ _ _ _ _ D3.out (short2 (by show 0 ≤ _; omega) (by show 0 ≤ _; omega) (by simp) (by intro x hx; obtain rfl := List.mem_singleton.1 hx; simp only; omega))).mono ?_
        rintro e w12 ⟨u0, u1, ul, rfl, ho, hb⟩
        rw [flush2 (by show 0 ≤ _; omega) (by show 0 ≤ _; omega) (by omega)] at ho
        replace XR := Lib.hid (XR.out.below hb XR.out.lt)
        replace XD := Lib.hid (XD.out.below hb XD.out.lt)
        replace B := Lib.hid (B.out.trans (hb.mono B.out.size))
        have hw12 := Nat.lt_of_lt_of_le hw11 hb.size
        clear hb d0 d1 d2 D3 hw11
        obtain ⟨G0, i0, G1, i1, G2, i2, rfl, rfl, rfl⟩ := ho.forms
        go_wp2_with fail
        refine (ImplDiskWrite_any ⟨[eB, os], [eB, eB], []⟩ 0 1 s _ _ _ _ (by unfold maxLen; omega) ho.reads (short2 (by show 0 ≤ _; omega) (by omega) (by simp) (by simp))).mono ?_
        rintro e w13 ⟨u0, u1, ul, rfl, ho', hb⟩
        clear ho
        rw [write2 (by show 0 ≤ _; omega) (by omega) (by omega)] at ho'
        replace XR := Lib.hid (XR.out.below hb XR.out.lt)
        replace XD := Lib.hid (XD.out.below hb XD.out.lt)
        replace B := Lib.hid (B.out.trans (hb.mono B.out.size))
        have hw13 := Nat.lt_of_lt_of_le hw12 hb.size
        clear hb
        obtain ⟨F0, j0, F1, j1, F2, j2, rfl, rfl, rfl⟩ := ho'.forms
        obtain ⟨d0, d1, d2⟩ := XD.out.three
        have df0 := XD.out.open_ 0
        have df1 := XD.out.open_ 1
        have df2 := XD.out.open_ 2
        have hn15 := Below.new (w := (((w13.setCell ⟨w10.heap.size, 0, none⟩ (.slice F0 2 j0)).setCell ⟨w10.heap.size, 1, none⟩ (.slice F1 2 j1)).setCell ⟨w10.heap.size, 2, none⟩ (.slice F2 1 j2))) (.cells #[.int .i64 2] 3)
        have D14 := Lib.hid ((ho'.set3 (a := ⟨w10.heap.size, 0, none⟩) (b := ⟨w10.heap.size, 1, none⟩) (c := ⟨w10.heap.size, 2, none⟩) (x := .slice F0 2 j0) (y := .slice F1 2 j1) (z := .slice F2 1 j2) hw12 hw12 hw12).reads.below hn15)
        have XD14 := Lib.hid (show Box (((w13.setCell ⟨w10.heap.size, 0, none⟩ (.slice F0 2 j0)).setCell ⟨w10.heap.size, 1, none⟩ (.slice F1 2 j1)).setCell ⟨w10.heap.size, 2, none⟩ (.slice F2 1 j2)) w10.heap.size [.slice F0 2 j0, .slice F1 2 j1, .slice F2 1 j2] from ((XD.out.set 0 (.slice F0 2 j0)).set 1 (.slice F1 2 j1)).set 2 (.slice F2 1 j2))
        have XR15 := Lib.hid ((((XR.out.other (p := ⟨w10.heap.size, 0, none⟩) hnR (.slice F0 2 j0)).other (p := ⟨w10.heap.size, 1, none⟩) hnR (.slice F1 2 j1)).other (p := ⟨w10.heap.size, 2, none⟩) hnR (.slice F2 1 j2)).alloc (.cells #[.int .i64 2] 3))
        have B15 := Lib.hid ((((B.out.setCell (p := ⟨w10.heap.size, 0, none⟩) hwB (.slice F0 2 j0)).setCell (p := ⟨w10.heap.size, 1, none⟩) hwB (.slice F1 2 j1)).setCell (p := ⟨w10.heap.size, 2, none⟩) hwB (.slice F2 1 j2)).trans (hn15.mono (by simpa [World.setCell] using B.out.size)))
        have HF := Lib.hid (sl_int1 (((w13.setCell ⟨w10.heap.size, 0, none⟩ (.slice F0 2 j0)).setCell ⟨w10.heap.size, 1, none⟩ (.slice F1 2 j1)).setCell ⟨w10.heap.size, 2, none⟩ (.slice F2 1 j2)) 2 3)
        have hWs : (((w13.setCell ⟨w10.heap.size, 0, none⟩ (.slice F0 2 j0)).setCell ⟨w10.heap.size, 1, none⟩ (.slice F1 2 j1)).setCell ⟨w10.heap.size, 2, none⟩ (.slice F2 1 j2)).heap.size = w13.heap.size := by simp [World.setCell]
        rw [hWs] at HF
        obtain ⟨dd0, dd1, dd2⟩ := XD14.out.three
        clear ho' hn15 XR B hw12
        go_wp2_with fail
        refine (ImplDiskFall_any ⟨[eB, os], [eB, eB], [⟨0, 1, s⟩]⟩ [2] _ _ _ _ _ D14.out (short2 (by show 0 ≤ _; omega) (by omega) (by simp) (by intro x hx; obtain rfl := List.mem_singleton.1 hx; simp only; omega)) HF.out (by intro b hb; injection hb with hb; subst hb; simp [World.setCell]) (by simp)).mono ?_
        rintro e w16 ⟨u0, u1, ul, rfl, ho, hb⟩
        rw [fall2 (by show 0 ≤ _; omega) (by omega) (by omega)] at ho
        have XR16 := Lib.hid (XR15.out.below hb XR15.out.lt)
        have B16 := Lib.hid (B15.out.trans (hb.mono B15.out.size))
        clear hb d0 d1 d2 df0 df1 df2 dd0 dd1 dd2 D14 XD XD14 HF XR15 B15 hWs
        obtain ⟨bt, ot, ct, rfl, _, hctm, hcell⟩ := ho.reads.r0.form (by simp)
        have tc := hcell 1 (.string (tornM os s)) rfl
        have hfl : ∀ (a b c : Value) (w : World), (Instr.field 36 (.agg #[a, b, c]) 0).run Tryz.prog w = .ok (.agg #[a, b]) w := fun _ _ _ _ => by kernel_rfl
        have hix : ∀ (a b : Value) (w : World), (Instr.index 33 (.agg #[a, b]) (.int .i64 0)).run Tryz.prog w = .ok a w := fun _ _ _ => by kernel_rfl
        unfold maxLen at hctm
        clear ho hcell
        go_wp2_with fail
        refine (implLogRead_any (tornM os s) _ (by omega) (HV.out.below B16.out)).mono ?_
        rintro e w17 ⟨hb, h⟩
        have XR17 := Lib.hid (XR16.out.below hb XR16.out.lt)
        have B17 := Lib.hid (B16.out.trans (hb.mono B16.out.size))
        clear hb XR16 B16 tc
        rcases h with ⟨zz, hz, rfl⟩ | ⟨_, rfl⟩
        · obtain rfl := HTORN.out zz hz
          have heq := eqlRec zz
          have XR18 := Lib.hid (XR17.out.alloc (.cells #[.int .i64 zz.txg, .int .i64 zz.seq, .int .i64 zz.kind, .string zz.a, .string zz.b, .int .i64 zz.i, .string zz.text] 26))
          have YR18 := Lib.hid (box_new w17 #[.int .i64 zz.txg, .int .i64 zz.seq, .int .i64 zz.kind, .string zz.a, .string zz.b, .int .i64 zz.i, .string zz.text] 26)
          have B18 := Lib.hid (B17.out.alloc B17.out.size (.cells #[.int .i64 zz.txg, .int .i64 zz.seq, .int .i64 zz.kind, .string zz.a, .string zz.b, .int .i64 zz.i, .string zz.text] 26))
          clear XR17 B17
          have xa0 := XR18.out.cell 0 rfl
          have ya0 := YR18.out.cell 0 rfl
          have xa1 := XR18.out.cell 1 rfl
          have ya1 := YR18.out.cell 1 rfl
          have xa2 := XR18.out.cell 2 rfl
          have ya2 := YR18.out.cell 2 rfl
          have xa3 := XR18.out.cell 3 rfl
          have ya3 := YR18.out.cell 3 rfl
          have xa4 := XR18.out.cell 4 rfl
          have ya4 := YR18.out.cell 4 rfl
          have xa5 := XR18.out.cell 5 rfl
          have ya5 := YR18.out.cell 5 rfl
          have xa6 := XR18.out.cell 6 rfl
          have ya6 := YR18.out.cell 6 rfl
          go_wp2
          go_ret
          exact ⟨rfl, B18.out⟩
        · have B18 := Lib.hid (B17.out.alloc B17.out.size (.cells #[.int .i64 0, .int .i64 0, .int .i64 0, .string ⟨#[]⟩, .string ⟨#[]⟩, .int .i64 0, .string ⟨#[]⟩] 26))
          go_wp2
          go_ret
          exact ⟨rfl, B18.out⟩
  case neg =>
    have hse : (s.toList == []) = true := by rw [← HS.out, log_of_no hok]; exact empty_yes rfl
    clear HX
    have CB := Lib.hid (HC.out.below B.out)
    go_wp2_with fail
    refine (drawLogRead_any C m e0 _ CB.out).mono ?_
    rintro e w5 ⟨tx, htx, rfl, hb⟩
    replace XR := Lib.hid (XR.out.below hb XR.out.lt)
    replace XX := Lib.hid (XX.out.below hb XX.out.lt)
    replace B := Lib.hid (B.out.trans (hb.mono B.out.size))
    clear hb CB
    go_wp2_with fail
    refine (implLogRead_any tx _ (by omega) (HV.out.below B.out)).mono ?_
    rintro e w6 ⟨hb, h⟩
    replace XR := Lib.hid (XR.out.below hb XR.out.lt)
    replace XX := Lib.hid (XX.out.below hb XX.out.lt)
    replace B := Lib.hid (B.out.trans (hb.mono B.out.size))
    clear hb
    obtain ⟨y, fine, rfl, HY⟩ : ∃ y fine, e = .returned (.tuple #[rv y, .bool fine]) ∧ Hid ((fine = true ∧ LSpells tx y) ∨ (fine = false ∧ ∀ z, ¬ LSpells tx z)) := by
      rcases h with ⟨y, hs, rfl⟩ | ⟨hn, rfl⟩
      · exact ⟨y, true, rfl, Lib.hid (Or.inl ⟨rfl, hs⟩)⟩
      · exact ⟨noRec, false, rfl, Lib.hid (Or.inr ⟨rfl, hn⟩)⟩
    clear h
    have hn := Below.new (w := w6) (.cells #[.int .i64 y.txg, .int .i64 y.seq, .int .i64 y.kind, .string y.a, .string y.b, .int .i64 y.i, .string y.text] 26)
    replace XR := Lib.hid (XR.out.below hn XR.out.lt)
    replace XX := Lib.hid (XX.out.below hn XX.out.lt)
    replace B := Lib.hid (B.out.trans (hn.mono B.out.size))
    clear hn
    have XY := Lib.hid (box_new w6 #[.int .i64 y.txg, .int .i64 y.seq, .int .i64 y.kind, .string y.a, .string y.b, .int .i64 y.i, .string y.text] 26)
    go_wp2_with fail
    refine (specLogRead_any tx _ (by omega)).mono ?_
    rintro e w7 ⟨hb, h⟩
    replace XR := Lib.hid (XR.out.below hb XR.out.lt)
    replace XX := Lib.hid (XX.out.below hb XX.out.lt)
    replace XY := Lib.hid (XY.out.below hb XY.out.lt)
    replace B := Lib.hid (B.out.trans (hb.mono B.out.size))
    clear hb
    obtain ⟨z, rfl⟩ : ∃ z, e = .returned (.tuple #[rv z, .bool fine]) := by
      rcases h with ⟨z, hs, rfl⟩ | ⟨hn, rfl⟩
      · rcases HY.out with ⟨rfl, _⟩ | ⟨_, hno⟩
        · exact ⟨z, rfl⟩
        · exact absurd hs (hno z)
      · rcases HY.out with ⟨_, hy⟩ | ⟨rfl, _⟩
        · exact absurd hy (hn y)
        · exact ⟨noRec, rfl⟩
    clear h
    have hn := Below.new (w := w7) (.cells #[.int .i64 z.txg, .int .i64 z.seq, .int .i64 z.kind, .string z.a, .string z.b, .int .i64 z.i, .string z.text] 26)
    replace XR := Lib.hid (XR.out.below hn XR.out.lt)
    replace XX := Lib.hid (XX.out.below hn XX.out.lt)
    replace XY := Lib.hid (XY.out.below hn XY.out.lt)
    replace B := Lib.hid (B.out.trans (hn.mono B.out.size))
    clear hn
    cases fine
    case false =>
      clear HY
      have CB := Lib.hid (HC.out.below B.out)
      go_wp2_with fail
      refine (drawLogText_any C m e0 _ CB.out).mono ?_
      rintro e w9 ⟨o, hom, rfl, hb⟩
      replace XR := Lib.hid (XR.out.below hb XR.out.lt)
      replace XX := Lib.hid (XX.out.below hb XX.out.lt)
      replace XY := Lib.hid (XY.out.below hb XY.out.lt)
      replace B := Lib.hid (B.out.trans (hb.mono B.out.size))
      clear hb CB
      have hn := Below.new (w := w9) (.cells #[.int .i64 o.txg, .int .i64 o.seq, .int .i64 o.kind, .string o.a, .string o.b, .int .i64 o.i, .string o.text] 26)
      replace XR := Lib.hid (XR.out.below hn XR.out.lt)
      replace XX := Lib.hid (XX.out.below hn XX.out.lt)
      replace XY := Lib.hid (XY.out.below hn XY.out.lt)
      replace B := Lib.hid (B.out.trans (hn.mono B.out.size))
      clear hn
      have XO := Lib.hid (box_new w9 #[.int .i64 o.txg, .int .i64 o.seq, .int .i64 o.kind, .string o.a, .string o.b, .int .i64 o.i, .string o.text] 26)
      go_wp2
      go_ret
      exact ⟨rfl, B.out⟩
    case true =>
      have HLT := Lib.hid (show logText y = tx from by
        rcases HY.out with ⟨_, hy⟩ | ⟨h, _⟩
        · exact hy.2
        · cases h)
      have HYK := Lib.hid (show RecOk y from by
        rcases HY.out with ⟨_, hy⟩ | ⟨h, _⟩
        · exact hy.1
        · cases h)
      have hya : y.a.size ≤ maxLen := by unfold maxLen; have := HYK.out.2.2.1.2.1; omega
      have hyt : y.text.size ≤ maxLen := by unfold maxLen; have := HYK.out.2.2.2.2.2; omega
      clear HY HYK
      have v0 := XY.out.cell 0 rfl
      have v1 := XY.out.cell 1 rfl
      have v2 := XY.out.cell 2 rfl
      have v3 := XY.out.cell 3 rfl
      have v4 := XY.out.cell 4 rfl
      have v5 := XY.out.cell 5 rfl
      have v6 := XY.out.cell 6 rfl
      go_wp2_with fail
      refine (implLog_is y tx _ hya hyt (HV.out.below B.out).libs.pow (HV.out.below B.out).tab HLT.out).mono ?_
      rintro e w8 ⟨rfl, hb⟩
      replace XR := Lib.hid (XR.out.below hb XR.out.lt)
      replace XX := Lib.hid (XX.out.below hb XX.out.lt)
      replace XY := Lib.hid (XY.out.below hb XY.out.lt)
      replace B := Lib.hid (B.out.trans (hb.mono B.out.size))
      clear hb v0 v1 v2 v3 v4 v5 v6
      have htt : (tx.toList == tx.toList) = true := by simp
      have CB := Lib.hid (HC.out.below B.out)
      go_wp2_with fail
      refine (drawLogText_any C m e0 _ CB.out).mono ?_
      rintro e w9 ⟨o, hom, rfl, hb⟩
      replace XR := Lib.hid (XR.out.below hb XR.out.lt)
      replace XX := Lib.hid (XX.out.below hb XX.out.lt)
      replace XY := Lib.hid (XY.out.below hb XY.out.lt)
      replace B := Lib.hid (B.out.trans (hb.mono B.out.size))
      clear hb CB
      have hn := Below.new (w := w9) (.cells #[.int .i64 o.txg, .int .i64 o.seq, .int .i64 o.kind, .string o.a, .string o.b, .int .i64 o.i, .string o.text] 26)
      replace XR := Lib.hid (XR.out.below hn XR.out.lt)
      replace XX := Lib.hid (XX.out.below hn XX.out.lt)
      replace XY := Lib.hid (XY.out.below hn XY.out.lt)
      replace B := Lib.hid (B.out.trans (hn.mono B.out.size))
      clear hn
      have XO := Lib.hid (box_new w9 #[.int .i64 o.txg, .int .i64 o.seq, .int .i64 o.kind, .string o.a, .string o.b, .int .i64 o.i, .string o.text] 26)
      go_wp2
      go_ret
      exact ⟨rfl, B.out⟩
end Go.Proofs.YtgjlhokakcdpbaaGreatDoor
