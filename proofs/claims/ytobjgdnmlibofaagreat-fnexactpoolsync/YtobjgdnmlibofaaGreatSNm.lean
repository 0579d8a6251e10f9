/-
  The document's l6Names.
-/
import Derived.Test.YtobjgdnmlibofaaGreatSCt
import Derived.Test.YtobjgdnmlibofaaGreatNmMore
import Derived.Test.YtobjgdnmlibofaaGreatINm
set_option maxRecDepth 100000
namespace Go.Proofs.YtobjgdnmlibofaaGreat
open Go.ChangeShapes Go.WideShapes Go.ChangeAt Go.RowKit Go.Proofs.Palim

set_option maxHeartbeats 8000000 in
theorem names_any (vs vd vp vi : Value) (c : CoreM) (w : World) (h : CoreR w vs vd vp vi c) (hs : CoreShort c) :
    Calls Tryz.prog 57 #[cv c vs vd vp vi] w fun e w' => ∃ u, e = .returned (.agg #[u]) ∧ w'.ownsRow w.heap.size 140 11 u c.sets.length (kcs (namesM c.sets)) ∧ Below w.heap.size w w' := by
  obtain ⟨i0, hi, hz0, hz1, hz2⟩ := info_parts infoBkSet
  obtain ⟨txg, sets, ddt, parts, dirty, safe, logn⟩ := c
  obtain ⟨A0, k0, A1, k1, A2, k2, A3, k3, e0, e1, e2, e3⟩ := h.forms
  dsimp only at e0 e1 e2 e3
  subst e0 e1 e2 e3
  have HRR := Lib.hid h
  have HS := Lib.hid h.s
  have HLS := Lib.hid h.ls
  have HD := Lib.hid h.d
  have HLD := Lib.hid h.ld
  obtain ⟨n, HL⟩ : ∃ n, Hid (sets.length = n) := ⟨_, Lib.hid rfl⟩
  obtain ⟨nd, HLDT⟩ : ∃ nd, Hid (ddt.length = nd) := ⟨_, Lib.hid rfl⟩
  have hln : n ≤ 1048576 := HL.out ▸ hs.s
  have hck := h.s.le
  clear h hs
  dsimp only at HS HLS HD HLD hck
  rw [HL.out] at HS HLS hck
  rw [HLDT.out] at HD HLD
  unfold maxLen at hck
  have XC0 := Lib.hid (show Box _ w.heap.size [.int .i64 txg, .slice A0 n k0, .slice A1 nd k1, .slice A2 parts.length k2, .bool dirty, .slice A3 safe.length k3, .int .i64 logn] from box_new w #[.int .i64 txg, .slice A0 n k0, .slice A1 nd k1, .slice A2 parts.length k2, .bool dirty, .slice A3 safe.length k3, .int .i64 logn] 44)
  have B00 := Lib.hid (Below.new1 (w := w) (.cells #[.int .i64 txg, .slice A0 n k0, .slice A1 nd k1, .slice A2 parts.length k2, .bool dirty, .slice A3 safe.length k3, .int .i64 logn] 44))
  simp only
  have XC := Lib.hid ((XC0.out.alloc (.cells #[.slice none 0 0] 94)).alloc (.cells #[.slice none 0 0] 94))
  obtain ⟨Y1, Y2, hsz2, hB2⟩ := box2 (w.alloc (.cells #[.int .i64 txg, .slice A0 n k0, .slice A1 nd k1, .slice A2 parts.length k2, .bool dirty, .slice A3 safe.length k3, .int .i64 logn] 44)) #[.slice none 0 0] #[.slice none 0 0] 94 94
  have hsz1 : (w.alloc (.cells #[.int .i64 txg, .slice A0 n k0, .slice A1 nd k1, .slice A2 parts.length k2, .bool dirty, .slice A3 safe.length k3, .int .i64 logn] 44)).heap.size = w.heap.size + 1 := by simp
  rw [hsz1] at Y1 Y2 hsz2 hB2
  have X1 := Lib.hid Y1
  have X2 := Lib.hid Y2
  have B0 := Lib.hid (B00.out.trans (hB2.mono (by omega)))
  clear Y1 Y2 hB2 XC0 B00 hsz1
  go_enter Tryz.func57, Tryz.ntmps57
  go_upto_region 2 with fail
  rw [HL.out, HLDT.out]
  obtain ⟨W0, HWE⟩ : ∃ W0, ((w.alloc (.cells #[.int .i64 txg, .slice A0 n k0, .slice A1 nd k1, .slice A2 parts.length k2, .bool dirty, .slice A3 safe.length k3, .int .i64 logn] 44)).alloc (.cells #[.slice none 0 0] 94)).alloc (.cells #[.slice none 0 0] 94) = W0 := ⟨_, rfl⟩
  rw [HWE] at XC X1 X2 B0 hsz2 ⊢
  clear HWE
  go_wp2
  go_loopw [4] (fun i wr => ∃ (k : Nat) (D : Option Addr) (cap : Nat), k ≤ n ∧ i = .int .i64 k ∧ Hid (Box wr w.heap.size [.int .i64 txg, .slice A0 n k0, .slice A1 nd k1, .slice A2 parts.length k2, .bool dirty, .slice A3 safe.length k3, .int .i64 logn]) ∧ Hid (Box wr (w.heap.size + 1) [.slice none 0 0]) ∧ Hid (Box wr (w.heap.size + 1 + 1) [.slice D k cap]) ∧ Hid (wr.ownsRow w.heap.size 140 11 (.slice D k cap) k (kcs (namesM (sets.take k)))) ∧ Hid (Below w.heap.size w wr) ∧ w.heap.size + 3 ≤ wr.heap.size ∧ Hid (∀ b, (Value.slice D k cap).ownBlock = some b → w.heap.size + 1 + 1 < b)) (fun i _ => n - (RowKit.intOf i).toNat)
  case atStart => exact ⟨0, none, 0, Nat.zero_le _, rfl, XC, X1, X2, Lib.hid ⟨rfl, Or.inl ⟨rfl, rfl⟩⟩, B0, by omega, Lib.hid (fun b e => by cases e)⟩
  case round =>
    obtain ⟨k, D, cap, hk, rfl, HX0, HX1, HX2, HO, HB, hszr, HBK⟩ := hrel
    clear XC X1 X2 B0 hsz2
    have n1 := HX0.out.cell 1 rfl
    by_cases hlt : k < n
    case pos =>
      have hl0 : k < sets.length := by rw [HL.out]; exact hlt
      obtain ⟨b, off, c', hvv, _, _, hcell⟩ := (HS.out.below HB.out HLS.out).form (by omega)
      injection hvv with e1 e2 e3
      subst e1 e3
      clear e2
      obtain ⟨g0, g1, g2⟩ := set_head hcell k hl0
      have hk1 : (k : Int) < (n : Int) := by omega
      have hbl : b < w.heap.size := HLS.out b rfl
      have HE := Lib.hid (show kcs (namesM (sets.take (k + 1))) = kcs (namesM (sets.take k)) ++ kc (nameM sets[k]) from by
        rw [show namesM (sets.take (k + 1)) = namesM (sets.take k) ++ [nameM sets[k]] from by unfold namesM; rw [List.take_succ_eq_append_getElem hl0, List.map_append]; rfl, kcs_snoc])
      obtain ⟨x, HXX⟩ : ∃ x, Hid (sets[k] = x) := ⟨_, Lib.hid rfl⟩
      rw [HXX.out] at g0 g1 g2 HE
      have m0 := HX2.out.cell 0 rfl
      have hn2 : Below wr.heap.size wr (wr.drew.alloc (.cells #[.string x.name, .int .i64 x.kind, .string x.frm, .string ⟨#[]⟩, .string ⟨#[]⟩, .string ⟨#[]⟩, .string ⟨#[]⟩, .string ⟨#[]⟩, .string ⟨#[]⟩, .string ⟨#[]⟩, .string ⟨#[]⟩] 140)) := ((Below.refl _ wr).drew).trans (Below.new1 (w := wr.drew) (.cells #[.string x.name, .int .i64 x.kind, .string x.frm, .string ⟨#[]⟩, .string ⟨#[]⟩, .string ⟨#[]⟩, .string ⟨#[]⟩, .string ⟨#[]⟩, .string ⟨#[]⟩, .string ⟨#[]⟩, .string ⟨#[]⟩] 140))
      have HSN := Lib.hid (show Sl (wr.drew.alloc (.cells #[.string x.name, .int .i64 x.kind, .string x.frm, .string ⟨#[]⟩, .string ⟨#[]⟩, .string ⟨#[]⟩, .string ⟨#[]⟩, .string ⟨#[]⟩, .string ⟨#[]⟩, .string ⟨#[]⟩, .string ⟨#[]⟩] 140)) 11 (.slice (some ⟨wr.heap.size, 0, none⟩) 1 1) 1 (kc (nameM x)) from sl_nm wr.drew x 140)
      have HO2 := Lib.hid (own_kept HO.out (fun b e => hn2.block b (HO.out.lt b e).2))
      have Z0 := Lib.hid (HX0.out.below hn2 HX0.out.lt)
      have Z1 := Lib.hid (HX1.out.below hn2 HX1.out.lt)
      have Z2 := Lib.hid (HX2.out.below hn2 HX2.out.lt)
      have HB2 := Lib.hid (HB.out.trans (hn2.mono HB.out.size))
      have hsz3 : (wr.drew.alloc (.cells #[.string x.name, .int .i64 x.kind, .string x.frm, .string ⟨#[]⟩, .string ⟨#[]⟩, .string ⟨#[]⟩, .string ⟨#[]⟩, .string ⟨#[]⟩, .string ⟨#[]⟩, .string ⟨#[]⟩, .string ⟨#[]⟩] 140)).heap.size = wr.heap.size + 1 := show (wr.heap.push _).size = wr.heap.size + 1 from by simp
      clear hcell HXX
      go_wp2_with fail
      have hbw : b < wr.heap.size := by omega
      have q0 := (hn2.cell (p := ⟨b, off + k * 31, none⟩) hbw).trans g0
      have q1 := (hn2.cell (p := ⟨b, off + k * 31 + 1, none⟩) hbw).trans g1
      have q2 := (hn2.cell (p := ⟨b, off + k * 31 + 2, none⟩) hbw).trans g2
      have qn := Z0.out.cell 1 rfl
      have mz := Z2.out.cell 0 rfl
      have mz2 : (wr.alloc (.cells #[.string x.name, .int .i64 x.kind, .string x.frm, .string ⟨#[]⟩, .string ⟨#[]⟩, .string ⟨#[]⟩, .string ⟨#[]⟩, .string ⟨#[]⟩, .string ⟨#[]⟩, .string ⟨#[]⟩, .string ⟨#[]⟩] 140)).cell? ⟨w.heap.size + 1 + 1, 0, none⟩ = some (.slice D k cap) := mz
      refine wp_region_held_drew (S := fun w' => w'.cell? ⟨w.heap.size, 1, none⟩ = some (.slice (some ⟨b, off, none⟩) n k0) ∧ w'.cell? ⟨b, off + k * 31, none⟩ = some (.string x.name) ∧ w'.cell? ⟨b, off + k * 31 + 1, none⟩ = some (.int .i64 x.kind) ∧ w'.cell? ⟨b, off + k * 31 + 2, none⟩ = some (.string x.frm)) (by kernel_rfl) ⟨n1, g0, g1, g2⟩ (fun hHeld => ?_)
      refine wpAnyH_take (i := 0) (v := ?_) rfl (by kernel_rfl) (by kernel_rfl) (by kernel_rfl) (fun _ _ _ h => h) (Or.inl ⟨by first | kernel_rfl | rfl, ?_⟩) (by assumption) ?_
      rotate_left
      · (intro w' hSw; (try dsimp only at hSw); go_simp; try with_reducible rfl)
      try simp only [Act.put]
      refine wpAnyH_take (i := 2) (v := ?_) rfl (by kernel_rfl) (by kernel_rfl) (by kernel_rfl) (fun _ _ _ h => h) (Or.inl ⟨by first | kernel_rfl | rfl, ?_⟩) (by assumption) ?_
      rotate_left
      · (intro w' hSw; (try dsimp only at hSw); go_simp; try with_reducible rfl)
      try simp only [Act.put]
      refine wpAnyH_take (i := 3) (v := ?_) rfl (by kernel_rfl) (by kernel_rfl) (by kernel_rfl) (fun _ _ _ h => h) (Or.inl ⟨by first | kernel_rfl | rfl, ?_⟩) (by assumption) ?_
      rotate_left
      · (intro w' hSw; (try dsimp only at hSw); go_simp; try with_reducible rfl)
      try simp only [Act.put]
      refine wpAnyH_take (i := 4) (v := ?_) rfl (by kernel_rfl) (by kernel_rfl) (by kernel_rfl) (fun _ _ _ h => h) (Or.inl ⟨by first | kernel_rfl | rfl, ?_⟩) (by assumption) ?_
      rotate_left
      · (intro w' hSw; (try dsimp only at hSw); go_simp; try with_reducible rfl)
      try simp only [Act.put]
      refine wpAnyH_take (i := 5) (v := ?_) rfl (by kernel_rfl) (by kernel_rfl) (by kernel_rfl) (fun _ _ _ h => h) (Or.inl ⟨by first | kernel_rfl | rfl, ?_⟩) (by assumption) ?_
      rotate_left
      · (intro w' hSw; (try dsimp only at hSw); go_simp; try with_reducible rfl)
      try simp only [Act.put]
      refine wpAnyH_take (i := 6) (v := ?_) rfl (by kernel_rfl) (by kernel_rfl) (by kernel_rfl) (fun _ _ _ h => h) (Or.inl ⟨by first | kernel_rfl | rfl, ?_⟩) (by assumption) ?_
      rotate_left
      · (intro w' hSw; (try dsimp only at hSw); go_simp; try with_reducible rfl)
      try simp only [Act.put]
      refine wpAnyH_take (i := 7) (v := ?_) rfl (by kernel_rfl) (by kernel_rfl) (by kernel_rfl) (fun _ _ _ h => h) (Or.inl ⟨by first | kernel_rfl | rfl, ?_⟩) (by assumption) ?_
      rotate_left
      · (intro w' hSw; (try dsimp only at hSw); go_simp; try with_reducible rfl)
      try simp only [Act.put]
      refine wpAnyH_take (i := 8) (v := ?_) rfl (by kernel_rfl) (by kernel_rfl) (by kernel_rfl) (fun _ _ _ h => h) (Or.inl ⟨by first | kernel_rfl | rfl, ?_⟩) (by assumption) ?_
      rotate_left
      · (intro w' hSw; (try dsimp only at hSw); go_simp; try with_reducible rfl)
      try simp only [Act.put]
      refine wpAnyH_take (i := 9) (v := ?_) rfl (by kernel_rfl) (by kernel_rfl) (by kernel_rfl) (fun _ _ _ h => h) (Or.inl ⟨by first | kernel_rfl | rfl, ?_⟩) (by assumption) ?_
      rotate_left
      · (intro w' hSw; (try dsimp only at hSw); go_simp; try with_reducible rfl)
      try simp only [Act.put]
      refine wpAnyH_take (i := 10) (v := ?_) rfl (by kernel_rfl) (by kernel_rfl) (by kernel_rfl) (fun _ _ _ h => h) (Or.inl ⟨by first | kernel_rfl | rfl, ?_⟩) (by assumption) ?_
      rotate_left
      · (intro w' hSw; (try dsimp only at hSw); go_simp; try with_reducible rfl)
      try simp only [Act.put]
      refine wpAnyH_take (i := 11) (v := ?_) rfl (by kernel_rfl) (by kernel_rfl) (by kernel_rfl) (fun _ _ _ h => h) (Or.inl ⟨by first | kernel_rfl | rfl, ?_⟩) (by assumption) ?_
      rotate_left
      · (intro w' hSw; (try dsimp only at hSw); go_simp; try with_reducible rfl)
      try simp only [Act.put]
      refine wpAnyH_take (i := 12) (v := ?_) rfl (by kernel_rfl) (by kernel_rfl) (by kernel_rfl) (fun _ _ _ h => h) (Or.inl ⟨by first | kernel_rfl | rfl, ?_⟩) (by assumption) ?_
      rotate_left
      · (intro w' hSw; (try dsimp only at hSw); go_simp; try with_reducible rfl)
      try simp only [Act.put]
      refine wpAnyH_take (i := 13) (v := ?_) rfl (by kernel_rfl) (by kernel_rfl) (by kernel_rfl) (fun _ _ _ h => h) (Or.inl ⟨by first | kernel_rfl | rfl, ?_⟩) (by assumption) ?_
      rotate_left
      · (intro w' hSw; (try dsimp only at hSw); go_simp; try with_reducible rfl)
      try simp only [Act.put]
      refine wpAnyH_take (i := 14) (v := ?_) rfl (by kernel_rfl) (by kernel_rfl) (by kernel_rfl) (fun _ _ _ h => h) (Or.inl ⟨by first | kernel_rfl | rfl, ?_⟩) (by assumption) ?_
      rotate_left
      · (intro w' hSw; (try dsimp only at hSw); go_simp; try with_reducible rfl)
      try simp only [Act.put]
      refine wpAnyH_take (i := 15) (v := ?_) rfl (by kernel_rfl) (by kernel_rfl) (by kernel_rfl) (fun _ _ _ h => h) (Or.inl ⟨by first | kernel_rfl | rfl, ?_⟩) (by assumption) ?_
      rotate_left
      · (intro w' hSw; (try dsimp only at hSw); go_simp; try with_reducible rfl)
      try simp only [Act.put]
      refine wpAnyH_take (i := 16) (v := ?_) rfl (by kernel_rfl) (by kernel_rfl) (by kernel_rfl) (fun _ _ _ h => h) (Or.inl ⟨by first | kernel_rfl | rfl, ?_⟩) (by assumption) ?_
      rotate_left
      · (intro w' hSw; (try dsimp only at hSw); go_simp; try with_reducible rfl)
      try simp only [Act.put]
      refine wpAnyH_take (i := 17) (v := ?_) rfl (by kernel_rfl) (by kernel_rfl) (by kernel_rfl) (fun _ _ _ h => h) (Or.inl ⟨by first | kernel_rfl | rfl, ?_⟩) (by assumption) ?_
      rotate_left
      · (intro w' hSw; (try dsimp only at hSw); go_simp; try with_reducible rfl)
      try simp only [Act.put]
      refine wpAnyH_take (i := 18) (v := ?_) rfl (by kernel_rfl) (by kernel_rfl) (by kernel_rfl) (fun _ _ _ h => h) (Or.inl ⟨by first | kernel_rfl | rfl, ?_⟩) (by assumption) ?_
      rotate_left
      · (intro w' hSw; (try dsimp only at hSw); go_simp; try with_reducible rfl)
      try simp only [Act.put]
      refine wpAnyH_take (i := 19) (v := ?_) rfl (by kernel_rfl) (by kernel_rfl) (by kernel_rfl) (fun _ _ _ h => h) (Or.inl ⟨by first | kernel_rfl | rfl, ?_⟩) (by assumption) ?_
      rotate_left
      · (intro w' hSw; (try dsimp only at hSw); go_simp; try with_reducible rfl)
      try simp only [Act.put]
      refine wpAnyH_take (i := 20) (v := ?_) rfl (by kernel_rfl) (by kernel_rfl) (by kernel_rfl) (fun _ _ _ h => h) (Or.inl ⟨by first | kernel_rfl | rfl, ?_⟩) (by assumption) ?_
      rotate_left
      · (intro w' hSw; (try dsimp only at hSw); go_simp; try with_reducible rfl)
      try simp only [Act.put]
      refine wpAnyH_ready (rs := [1, 21]) (by kernel_rfl) (by simp) ?_
      refine AllReadyH.cons rfl (fun K hK => ?_) (AllReadyH.cons rfl (fun K hK => ?_) AllReadyH.nil)
      · go_simp
        refine hK.out _ _ ⟨n1, g0, g1, g2⟩ (fun hHeld1 => ?_)
        clear hK K
        try simp only [Act.put]
        refine wpAnyH_ready (rs := [21]) (by kernel_rfl) (by simp) ?_
        refine AllReadyH.cons rfl (fun K hK => ?_) AllReadyH.nil
        go_simp
        refine hK.out _ _ ⟨qn, q0, q1, q2⟩ (fun hHeld2 => ?_)
        clear hK K
        try simp only [Act.put]
        refine wpAnyH_ready (rs := [22]) (by kernel_rfl) (by simp) ?_
        refine AllReadyH.cons rfl (fun K hK => ?_) AllReadyH.nil
        refine step_append_fresh _ (by rfl) _ _ _ (by rfl) w.heap.size 140 i0 _ 11 168 Tryz.underlying92 hi hz0 hz1 hz2 rfl (by omega) (.slice D k cap) k _ (by rfl) HO2.out (.slice (some ⟨wr.heap.size, 0, none⟩) 1 1) 1 (kc (nameM x)) (by rfl) HSN.out (kc_one _) (by unfold maxLen; omega) (by omega) HB2.out.size ?_
        intro A2 cap2 w5 hown5 hg5 hloc
        rw [← HE.out] at hown5
        have NM := nm_more Z2.out hg5 HBK.out HB2.out (by omega) hown5 (by first | exact hloc | (rw [hsz3]; exact hloc))
        have hk5 : ∀ g, g < w.heap.size + 1 + 1 → w5.heap[g]? = (wr.drew.alloc (.cells #[.string x.name, .int .i64 x.kind, .string x.frm, .string ⟨#[]⟩, .string ⟨#[]⟩, .string ⟨#[]⟩, .string ⟨#[]⟩, .string ⟨#[]⟩, .string ⟨#[]⟩, .string ⟨#[]⟩, .string ⟨#[]⟩] 140)).heap[g]? := fun g hg => hg5.block g (Nat.lt_of_lt_of_le (show g < wr.heap.size by omega) hn2.size) (fun e => by have := HBK.out g e.symm; omega)
        have r0 := (World.cell?_of_block (a := ⟨b, off + k * 31, none⟩) (hk5 b (by omega))).trans q0
        have r1 := (World.cell?_of_block (a := ⟨b, off + k * 31 + 1, none⟩) (hk5 b (by omega))).trans q1
        have r2 := (World.cell?_of_block (a := ⟨b, off + k * 31 + 2, none⟩) (hk5 b (by omega))).trans q2
        have rn := (World.cell?_of_block (a := ⟨w.heap.size, 1, none⟩) (hk5 w.heap.size (by omega))).trans qn
        refine hK.out _ _ ⟨rn, r0, r1, r2⟩ (fun hHeld3 => ?_)
        clear hK K
        try simp only [Act.put]
        refine wpAnyH_take (i := 23) (v := ?_) rfl (by kernel_rfl) (by kernel_rfl) (by kernel_rfl) (fun _ _ _ h => h) (Or.inl ⟨by first | kernel_rfl | rfl, ?_⟩) (by assumption) ?_
        rotate_left
        · (intro w' hSw; (try dsimp only at hSw); go_simp; try with_reducible rfl)
        try simp only [Act.put]
        refine wpAnyH_ready (rs := [24]) (by kernel_rfl) (by simp) ?_
        refine AllReadyH.cons rfl (fun K hK => ?_) AllReadyH.nil
        have c0 := NM.c0
        have f0 := NM.f0
        have t0 := (World.cell?_of_block (a := ⟨b, off + k * 31, none⟩) (NM.low b (by omega))).trans q0
        have t1 := (World.cell?_of_block (a := ⟨b, off + k * 31 + 1, none⟩) (NM.low b (by omega))).trans q1
        have t2 := (World.cell?_of_block (a := ⟨b, off + k * 31 + 2, none⟩) (NM.low b (by omega))).trans q2
        have tn := (World.cell?_of_block (a := ⟨w.heap.size, 1, none⟩) (NM.low w.heap.size (by omega))).trans qn
        go_simp
        refine hK.out _ _ ⟨tn, t0, t1, t2⟩ (fun hHeld4 => ?_)
        clear hK K
        try simp only [Act.put]
        refine wpAnyH_done (by kernel_rfl) ?_ _
        go_simp
        clear hHeld hHeld1 hHeld2 hHeld3 hHeld4
        have U0 := Lib.hid (Z0.out.kept (NM.low _ (by omega)))
        have U1 := Lib.hid (Z1.out.kept (NM.low _ (by omega)))
        have U2 := Lib.hid NM.box
        have HO5 := Lib.hid NM.own
        have HB5 := Lib.hid NM.below
        have hsz5 : w.heap.size + 3 ≤ (w5.setCell ⟨w.heap.size + 1 + 1, 0, none⟩ (.slice A2 (k + 1) cap2)).heap.size := by have := NM.size; omega
        have HBK5 := Lib.hid NM.hi
        clear hown5 hg5 hloc NM Z0 Z1 Z2 HO2 HB2 HBK HSN q0 q1 q2 qn r0 r1 r2 rn t0 t1 t2 tn c0 f0 hk5 hn2 n1 m0 mz mz2 g0 g1 g2 HX0 HX1 HX2 HO HB
        go_wp2
        go_roundw
        case rel => exact ⟨k + 1, A2, cap2, by omega, by go_num, U0, U1, U2, HO5, HB5, hsz5, HBK5⟩
        case measure => simp [RowKit.intOf]; omega
      · go_simp
        refine hK.out _ _ ⟨qn, q0, q1, q2⟩ (fun hHeld1 => ?_)
        clear hK K
        try simp only [Act.put]
        refine wpAnyH_ready (rs := [1]) (by kernel_rfl) (by simp) ?_
        refine AllReadyH.cons rfl (fun K hK => ?_) AllReadyH.nil
        go_simp
        refine hK.out _ _ ⟨qn, q0, q1, q2⟩ (fun hHeld2 => ?_)
        clear hK K
        try simp only [Act.put]
        refine wpAnyH_ready (rs := [22]) (by kernel_rfl) (by simp) ?_
        refine AllReadyH.cons rfl (fun K hK => ?_) AllReadyH.nil
        refine step_append_fresh _ (by rfl) _ _ _ (by rfl) w.heap.size 140 i0 _ 11 168 Tryz.underlying92 hi hz0 hz1 hz2 rfl (by omega) (.slice D k cap) k _ (by rfl) HO2.out (.slice (some ⟨wr.heap.size, 0, none⟩) 1 1) 1 (kc (nameM x)) (by rfl) HSN.out (kc_one _) (by unfold maxLen; omega) (by omega) HB2.out.size ?_
        intro A2 cap2 w5 hown5 hg5 hloc
        rw [← HE.out] at hown5
        have NM := nm_more Z2.out hg5 HBK.out HB2.out (by omega) hown5 (by first | exact hloc | (rw [hsz3]; exact hloc))
        have hk5 : ∀ g, g < w.heap.size + 1 + 1 → w5.heap[g]? = (wr.drew.alloc (.cells #[.string x.name, .int .i64 x.kind, .string x.frm, .string ⟨#[]⟩, .string ⟨#[]⟩, .string ⟨#[]⟩, .string ⟨#[]⟩, .string ⟨#[]⟩, .string ⟨#[]⟩, .string ⟨#[]⟩, .string ⟨#[]⟩] 140)).heap[g]? := fun g hg => hg5.block g (Nat.lt_of_lt_of_le (show g < wr.heap.size by omega) hn2.size) (fun e => by have := HBK.out g e.symm; omega)
        have r0 := (World.cell?_of_block (a := ⟨b, off + k * 31, none⟩) (hk5 b (by omega))).trans q0
        have r1 := (World.cell?_of_block (a := ⟨b, off + k * 31 + 1, none⟩) (hk5 b (by omega))).trans q1
        have r2 := (World.cell?_of_block (a := ⟨b, off + k * 31 + 2, none⟩) (hk5 b (by omega))).trans q2
        have rn := (World.cell?_of_block (a := ⟨w.heap.size, 1, none⟩) (hk5 w.heap.size (by omega))).trans qn
        refine hK.out _ _ ⟨rn, r0, r1, r2⟩ (fun hHeld3 => ?_)
        clear hK K
        try simp only [Act.put]
        refine wpAnyH_take (i := 23) (v := ?_) rfl (by kernel_rfl) (by kernel_rfl) (by kernel_rfl) (fun _ _ _ h => h) (Or.inl ⟨by first | kernel_rfl | rfl, ?_⟩) (by assumption) ?_
        rotate_left
        · (intro w' hSw; (try dsimp only at hSw); go_simp; try with_reducible rfl)
        try simp only [Act.put]
        refine wpAnyH_ready (rs := [24]) (by kernel_rfl) (by simp) ?_
        refine AllReadyH.cons rfl (fun K hK => ?_) AllReadyH.nil
        have c0 := NM.c0
        have f0 := NM.f0
        have t0 := (World.cell?_of_block (a := ⟨b, off + k * 31, none⟩) (NM.low b (by omega))).trans q0
        have t1 := (World.cell?_of_block (a := ⟨b, off + k * 31 + 1, none⟩) (NM.low b (by omega))).trans q1
        have t2 := (World.cell?_of_block (a := ⟨b, off + k * 31 + 2, none⟩) (NM.low b (by omega))).trans q2
        have tn := (World.cell?_of_block (a := ⟨w.heap.size, 1, none⟩) (NM.low w.heap.size (by omega))).trans qn
        go_simp
        refine hK.out _ _ ⟨tn, t0, t1, t2⟩ (fun hHeld4 => ?_)
        clear hK K
        try simp only [Act.put]
        refine wpAnyH_done (by kernel_rfl) ?_ _
        go_simp
        clear hHeld hHeld1 hHeld2 hHeld3 hHeld4
        have U0 := Lib.hid (Z0.out.kept (NM.low _ (by omega)))
        have U1 := Lib.hid (Z1.out.kept (NM.low _ (by omega)))
        have U2 := Lib.hid NM.box
        have HO5 := Lib.hid NM.own
        have HB5 := Lib.hid NM.below
        have hsz5 : w.heap.size + 3 ≤ (w5.setCell ⟨w.heap.size + 1 + 1, 0, none⟩ (.slice A2 (k + 1) cap2)).heap.size := by have := NM.size; omega
        have HBK5 := Lib.hid NM.hi
        clear hown5 hg5 hloc NM Z0 Z1 Z2 HO2 HB2 HBK HSN q0 q1 q2 qn r0 r1 r2 rn t0 t1 t2 tn c0 f0 hk5 hn2 n1 m0 mz mz2 g0 g1 g2 HX0 HX1 HX2 HO HB
        go_wp2
        go_roundw
        case rel => exact ⟨k + 1, A2, cap2, by omega, by go_num, U0, U1, U2, HO5, HB5, hsz5, HBK5⟩
        case measure => simp [RowKit.intOf]; omega
    case neg =>
      have hkn : k = n := by omega
      subst hkn
      have HT := Lib.hid (show sets.take k = sets from List.take_of_length_le (by rw [HL.out]; omega))
      have c1 := HX2.out.cell 0 rfl
      have c2 := HX1.out.cell 0 rfl
      have f2 := HX1.out.open_ 0
      have U := Lib.hid (HX1.out.set 0 (.slice D k cap))
      have HO5 := Lib.hid (own_kept HO.out (w' := wr.setCell ⟨w.heap.size + 1, 0, none⟩ (.slice D k cap)) (fun b e => Below.heap_setCell wr _ _ b (fun e2 => by have := HBK.out b e; simp only at e2; omega)))
      have HB5 := Lib.hid (HB.out.setCell (p := ⟨w.heap.size + 1, 0, none⟩) (by simp) (.slice D k cap))
      clear HO HB HX1 HX2
      go_wp2
      refine bodyPost_ret (v := .agg #[.slice D k cap]) (results_box rfl _ (w.heap.size + 1) [.slice D k cap] aggBookD rfl rfl U.out) rfl ?_
      refine ⟨_, rfl, ?_, HB5.out⟩
      have h0 := HO5.out
      rw [HT.out] at h0
      rw [HL.out]
      exact h0
end Go.Proofs.YtobjgdnmlibofaaGreat
