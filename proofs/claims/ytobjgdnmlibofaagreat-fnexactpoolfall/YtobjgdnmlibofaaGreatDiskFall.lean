/-
  spec's DiskFall.
-/
import Derived.Test.YtobjgdnmlibofaaGreatTorn
import Derived.Test.YtobjgdnmlibofaaGreatDiskB
import Derived.Test.YtobjgdnmlibofaaGreatData
import Derived.StillTailTactics
set_option maxRecDepth 100000
namespace Go.Proofs.YtobjgdnmlibofaaGreat
open Go.ChangeShapes Go.WideShapes Go.ChangeAt Go.RowKit Go.Proofs.Palim

theorem DiskOwn.put0' {w : World} {base g c n : Nat} {v1 vl : Value} {d : DiskM} (ho : DiskOwn w base (.slice (some ⟨g, 0, none⟩) n c) v1 vl d) (k : Nat) (t : ByteArray) (hn : d.s0.length = n) :
    DiskOwn (w.setCell ⟨g, k, none⟩ (.string t)) base (.slice (some ⟨g, 0, none⟩) n c) v1 vl (putM d 0 (k : Int) t) ∧ Turned (DTurns (.slice (some ⟨g, 0, none⟩) n c) v1 vl) w (w.setCell ⟨g, k, none⟩ (.string t)) := by subst hn; exact ho.put0 k t
theorem DiskOwn.put1' {w : World} {base g c n : Nat} {v0 vl : Value} {d : DiskM} (ho : DiskOwn w base v0 (.slice (some ⟨g, 0, none⟩) n c) vl d) (k : Nat) (t : ByteArray) (hn : d.s1.length = n) :
    DiskOwn (w.setCell ⟨g, k, none⟩ (.string t)) base v0 (.slice (some ⟨g, 0, none⟩) n c) vl (putM d 1 (k : Int) t) ∧ Turned (DTurns v0 (.slice (some ⟨g, 0, none⟩) n c) vl) w (w.setCell ⟨g, k, none⟩ (.string t)) := by subst hn; exact ho.put1 k t

set_option maxHeartbeats 4000000 in
theorem DiskFall_any (v0 v1 vl vf : Value) (d : DiskM) (fs : List Int) (w : World) (h : DiskR w v0 v1 vl d) (hs : DiskShort d) (hf : Sl w 1 vf fs.length (ics fs)) (hfl : Low w.heap.size vf) (hfn : fs.length ≤ 1048576) :
    Calls Tryz.prog 40 #[.agg #[v0, v1, vl], vf] w (NewDisk w (fallM d fs)) := by
  have hsf := hf
  obtain ⟨_, Af, cf, rfl, _⟩ := hsf
  have HFT := Lib.hid hf
  have HFL := Lib.hid hfl
  clear hf hfl
  obtain ⟨nf, HNF⟩ : ∃ n, Hid (fs.length = n) := ⟨_, Lib.hid rfl⟩
  rw [HNF.out] at HFT HFL hfn ⊢
  have hnot : ∀ (x : Bool) (w : World), (Op.unary .not (.bool x)).run Tryz.prog w = .ok (.bool (!x)) w := fun _ _ => rfl
  obtain ⟨_, A0, c0, rfl, _⟩ := h.r0
  obtain ⟨_, A1, c1, rfl, _⟩ := h.r1
  obtain ⟨_, Al, cl, rfl, _⟩ := h.rl
  have HD := Lib.hid h
  have HS := Lib.hid hs
  have hnl := hs.nl
  clear h hs
  obtain ⟨hA, hR, hsz, hB⟩ := box2 w #[.slice A0 d.s0.length c0, .slice A1 d.s1.length c1, .slice Al d.late.length cl] #[.slice none 0 0, .slice none 0 0, .slice none 0 0] 39 39
  have RD := Lib.hid (HD.out.below hB)
  have XD := Lib.hid hA
  have XR := Lib.hid hR
  have B0 := Lib.hid hB
  clear hA hR hB
  by_cases hok : DiskOkM d
  · have hok' := Lib.hid (decide_eq_true hok)
    have HK := Lib.hid hok
    go_enter Tryz.func40, Tryz.ntmps40
    go_wp2_with fail
    refine (DiskOk_is _ _ _ d _ RD.out HS.out true hok'.out).mono ?_
    rintro e w1 ⟨rfl, hb⟩
    have RD1 := Lib.hid (RD.out.below hb)
    have XD1 := Lib.hid (XD.out.below hb (by omega))
    have XR1 := Lib.hid (XR.out.below hb (by omega))
    have B1 := Lib.hid (B0.out.trans (hb.mono (by omega)))
    have hs1 : w.heap.size + 2 ≤ w1.heap.size := by have := hb.size; omega
    clear hb RD XD XR B0 hsz hok hok'
    obtain ⟨x0, x1, x2⟩ := XD1.out.three
    go_wp2_with fail
    refine (l2Copy_any _ _ _ d _ RD1.out HS.out).mono ?_
    rintro e w2 ⟨u0, u1, ul, rfl, ho, hb⟩
    obtain ⟨U0, e0, U1, e1, Ul, el, rfl, rfl, rfl⟩ := ho.forms
    have DR := Lib.hid (dr_start 39 XR1.out B1.out hs1 ho hb)
    have hn := Below.new (w := w2) (.cells #[.slice U0 d.s0.length e0, .slice U1 d.s1.length e1, .slice Ul d.late.length el] 39)
    have RD2 := Lib.hid ((RD1.out.below hb).below hn)
    have XD2 := Lib.hid ((XD1.out.below hb (by omega)).alloc (.cells #[.slice U0 d.s0.length e0, .slice U1 d.s1.length e1, .slice Ul d.late.length el] 39))
    clear ho hb hn RD1 XD1 XR1 B1 x0 x1 x2
    have HF := Lib.hid (show fallM d fs = _ from if_pos HK.out)
    have HN := Lib.hid HK.out.2.2.1
    obtain ⟨nl, HL⟩ : ∃ n, Hid (d.late.length = n) := ⟨_, Lib.hid rfl⟩
    rw [HL.out] at DR XD2 RD2 HD hnl ⊢
    have hn0 := HS.out.n0
    have hn1 := HS.out.n1
    clear RD2
    have hxw : w.heap.size + 2 ≤ w2.heap.size := DR.out.hx
    go_wp2
    go_loopw [6] (fun i wr => ∃ k : Nat, k ≤ nl ∧ k ≤ nf ∧ i = .int .i64 (k : Int) ∧ Hid (Box wr w.heap.size [.slice A0 d.s0.length c0, .slice A1 d.s1.length c1, .slice Al nl cl]) ∧ Hid (Dr w wr w2.heap.size (.slice U0 d.s0.length e0) (.slice U1 d.s1.length e1) (.slice Ul nl el) ⟨(fallAll (d.s0, d.s1) ((pairs d.late fs).take k)).1, (fallAll (d.s0, d.s1) ((pairs d.late fs).take k)).2, d.late⟩)) (fun i _ => nl - (intOf i).toNat)
    case atStart => exact ⟨0, Nat.zero_le _, Nat.zero_le _, rfl, XD2, DR⟩
    case round =>
      clear DR XD2
      obtain ⟨k, hk, hkf, rfl, XD, DR⟩ := hrel
      obtain ⟨x0, x1, x2⟩ := XD.out.three
      by_cases hlt : k < nl
      · by_cases hltf : k < nf
        · have hll : k < d.late.length := by rw [HL.out]; exact hlt
          have hlf : k < fs.length := by rw [HNF.out]; exact hltf
          obtain ⟨bl, ol, cl', el', hcl, hml, hcell⟩ := HD.out.rl.form (by have := HL.out; omega)
          injection el' with el1 el2 el3
          subst el1 el3
          rw [HL.out] at hcl
          unfold maxLen at hml
          obtain ⟨bf, of, cf', ef', hcf, hmf, hcellf⟩ := HFT.out.form (by omega)
          injection ef' with ef1 ef2 ef3
          subst ef1 ef3
          unfold maxLen at hmf
          have hbll : bl < w.heap.size := HD.out.ll bl rfl
          have hbfl : bf < w.heap.size := HFL.out bf rfl
          have hrd := late_read (fun j u hu => (DR.out.below.cell hbll).trans (hcell j u hu)) k hll
          have hfd := (DR.out.below.cell hbfl).trans (hcellf k _ (ics_at fs k hlf))
          have hx := HK.out.2.2.2.2.2.2 _ (List.getElem_mem hll)
          have HP := Lib.hid (show fallAll (d.s0, d.s1) ((pairs d.late fs).take (k + 1)) = fallStep (fallAll (d.s0, d.s1) ((pairs d.late fs).take k)) (d.late[k], fs[k]) from by
            rw [List.take_succ_eq_append_getElem (by rw [pairs_len]; exact hll), fallAll_snoc, pairs_at _ _ _ _ hll]
            rw [show fs.getD k 0 = fs[k] from by simp [List.getD, List.getElem?_eq_getElem hlf]])
          generalize d.late[k] = x at hrd hx HP
          generalize fs[k] = f at hfd HP
          obtain ⟨xs, xa, xt⟩ := x
          obtain ⟨hx1, hx2, hx3, hx4, hx5⟩ := hx
          simp only at hrd hx1 hx2 hx3 hx4 hx5 HP
          obtain ⟨a, rfl⟩ : ∃ a : Nat, xa = a := ⟨xa.toNat, by omega⟩
          obtain ⟨p1, p2, p3⟩ := hrd
          have hk1 : (k : Int) < (nl : Int) := by omega
          have hkf1 : (k : Int) < (nf : Int) := by omega
          clear hcell hcellf el2 ef2 hll hlf
          have hnw := Lib.hid (Below.new (w := wr) (.cells #[.int .i64 xs, .int .i64 (a : Int), .string xt] 81))
          have DR1 := Lib.hid (DR.out.on hnw.out)
          have XD1 := Lib.hid (XD.out.alloc (.cells #[.int .i64 xs, .int .i64 (a : Int), .string xt] 81))
          have hwrl := DR.out.xo.lt
          have hbfw : bf < wr.heap.size := by omega
          have hblw : bl < wr.heap.size := by omega
          have hfd1 := (hnw.out.cell (p := ⟨bf, of + k, none⟩) hbfw).trans hfd
          have hsd : xs = 0 ∨ xs = 1 := by omega
          by_cases hf1 : f = 1
          · subst hf1
            rcases hsd with rfl | rfl
            · have hal : a < d.s0.length := by omega
              have hle : (fallAll (d.s0, d.s1) ((pairs d.late fs).take k)).1.length = d.s0.length := (fallAll_len _ _).1
              have O : World.ownsRow _ _ _ _ _ (fallAll (d.s0, d.s1) ((pairs d.late fs).take k)).1.length (scs (fallAll (d.s0, d.s1) ((pairs d.late fs).take k)).1) := DR1.out.own.o0
              rw [hle] at O
              obtain ⟨g, c', hgf, hgb, hgl⟩ := O.form (by omega)
              injection hgf with hg1 hg2 hg3
              subst hg1
              clear hg2 hg3
              obtain ⟨⟨u, hu, hct⟩, hft, _, hglt⟩ := own_at O a (by omega)
              clear O
              obtain rfl := sect_at (p := (fallAll (d.s0, d.s1) ((pairs d.late fs).take k))) (side := 0) (Or.inl ⟨rfl, hu⟩)
              clear hu
              have hgx : ¬ g = w2.heap.size := fun e => DR1.out.nx (Or.inl (by rw [e]; rfl))
              have hgw : g < wr.heap.size := (DR.out.own.o0.lt g rfl).2
              have hgw1 : ¬ g = wr.heap.size := by omega
              have hgw2 : ¬ wr.heap.size = g := by omega
              have hgx2 : ¬ w2.heap.size = g := fun e => hgx e.symm
              obtain ⟨z0, z1, z2⟩ := DR1.out.xo.three
              have XL := box_new wr #[.int .i64 0, .int .i64 (a : Int), .string xt] 81
              obtain ⟨y0, y1, y2⟩ := XL.three
              go_wp2_with fail
              generalize hw3 : wr.alloc (.cells #[.int .i64 0, .int .i64 (a : Int), .string xt] 81) = w3 at DR1 XD1 hct hft z0 z1 z2 y0 y1 y2 hglt ⊢
              clear hw3 XL hnw hfd1 hfd p1 p2 p3 x0 x1 x2
              go_still_tail 10, (by kernel_rfl)
              change wpList _ _ _ _ _ w3.drew
              have DR2 := Lib.hid (DR1.out.on (Below.refl _ w3).drew)
              have hput := DR2.out.own.put0' a xt hle
              have DR3 := Lib.hid (DR2.out.turned hput.2 hput.1)
              have XD3 := Lib.hid ((XD1.out.drew).other (p := ⟨g, a, none⟩) (by simp; omega) (.string xt))
              clear hput
              go_wp2
              go_roundw
              case rel =>
                refine ⟨k + 1, by omega, by omega, by go_num, XD3, Lib.hid ?_⟩
                rw [HP.out]
                unfold fallStep
                rw [if_pos rfl]
                exact DR3.out
              case measure => simp [intOf]; omega
            · have hal : a < d.s1.length := by have := HN.out; omega
              have hle : (fallAll (d.s0, d.s1) ((pairs d.late fs).take k)).2.length = d.s1.length := (fallAll_len _ _).2
              have O : World.ownsRow _ _ _ _ _ (fallAll (d.s0, d.s1) ((pairs d.late fs).take k)).2.length (scs (fallAll (d.s0, d.s1) ((pairs d.late fs).take k)).2) := DR1.out.own.o1
              rw [hle] at O
              obtain ⟨g, c', hgf, hgb, hgl⟩ := O.form (by omega)
              injection hgf with hg1 hg2 hg3
              subst hg1
              clear hg2 hg3
              obtain ⟨⟨u, hu, hct⟩, hft, _, hglt⟩ := own_at O a (by omega)
              clear O
              obtain rfl := sect_at (p := (fallAll (d.s0, d.s1) ((pairs d.late fs).take k))) (side := 1) (Or.inr ⟨rfl, hu⟩)
              clear hu
              have hgx : ¬ g = w2.heap.size := fun e => DR1.out.nx (Or.inr (Or.inl (by rw [e]; rfl)))
              have hgw : g < wr.heap.size := (DR.out.own.o1.lt g rfl).2
              have hgw1 : ¬ g = wr.heap.size := by omega
              have hgw2 : ¬ wr.heap.size = g := by omega
              have hgx2 : ¬ w2.heap.size = g := fun e => hgx e.symm
              obtain ⟨z0, z1, z2⟩ := DR1.out.xo.three
              have XL := box_new wr #[.int .i64 1, .int .i64 (a : Int), .string xt] 81
              obtain ⟨y0, y1, y2⟩ := XL.three
              go_wp2_with fail
              generalize hw3 : wr.alloc (.cells #[.int .i64 1, .int .i64 (a : Int), .string xt] 81) = w3 at DR1 XD1 hct hft z0 z1 z2 y0 y1 y2 hglt ⊢
              clear hw3 XL hnw hfd1 hfd p1 p2 p3 x0 x1 x2
              go_still_tail 10, (by kernel_rfl)
              change wpList _ _ _ _ _ w3.drew
              have DR2 := Lib.hid (DR1.out.on (Below.refl _ w3).drew)
              have hput := DR2.out.own.put1' a xt hle
              have DR3 := Lib.hid (DR2.out.turned hput.2 hput.1)
              have XD3 := Lib.hid ((XD1.out.drew).other (p := ⟨g, a, none⟩) (by simp; omega) (.string xt))
              clear hput
              go_wp2
              go_roundw
              case rel =>
                refine ⟨k + 1, by omega, by omega, by go_num, XD3, Lib.hid ?_⟩
                rw [HP.out]
                unfold fallStep
                rw [if_pos rfl]
                exact DR3.out
              case measure => simp [intOf]; omega
          · by_cases hf2 : f = 2
            · subst hf2
              rcases hsd with rfl | rfl
              · have hal : a < d.s0.length := by omega
                have hle : (fallAll (d.s0, d.s1) ((pairs d.late fs).take k)).1.length = d.s0.length := (fallAll_len _ _).1
                have O : World.ownsRow _ _ _ _ _ (fallAll (d.s0, d.s1) ((pairs d.late fs).take k)).1.length (scs (fallAll (d.s0, d.s1) ((pairs d.late fs).take k)).1) := DR1.out.own.o0
                rw [hle] at O
                obtain ⟨g, c', hgf, hgb, hgl⟩ := O.form (by omega)
                injection hgf with hg1 hg2 hg3
                subst hg1
                clear hg2 hg3
                obtain ⟨⟨u, hu, hct⟩, hft, _, hglt⟩ := own_at O a (by omega)
                clear O
                obtain rfl := sect_at (p := (fallAll (d.s0, d.s1) ((pairs d.late fs).take k))) (side := 0) (Or.inl ⟨rfl, hu⟩)
                clear hu
                have hgx : ¬ g = w2.heap.size := fun e => DR1.out.nx (Or.inl (by rw [e]; rfl))
                have hgw : g < wr.heap.size := (DR.out.own.o0.lt g rfl).2
                have hgw1 : ¬ g = wr.heap.size := by omega
                have hgw2 : ¬ wr.heap.size = g := by omega
                have hgx2 : ¬ w2.heap.size = g := fun e => hgx e.symm
                obtain ⟨z0, z1, z2⟩ := DR1.out.xo.three
                have XL := box_new wr #[.int .i64 0, .int .i64 (a : Int), .string xt] 81
                obtain ⟨y0, y1, y2⟩ := XL.three
                have hall := fallAll_all (B := 1048576) ((pairs d.late fs).take k) (fun y hy => pairs_text HS.out.zl fs y (List.mem_of_mem_take hy)) (d.s0, d.s1) HS.out.z0 HS.out.z1
                have hso : (sectOf (fallAll (d.s0, d.s1) ((pairs d.late fs).take k)) 0 a).size ≤ maxLen := by
                  have := sectOf_all (P := fun s => s.size ≤ 1048576) hall.1 hall.2 (Nat.zero_le _) 0 a
                  unfold maxLen; omega
                clear hall
                have hsn : xt.size ≤ maxLen := by unfold maxLen; omega
                obtain ⟨old, HOLD⟩ : ∃ old, Hid (sectOf (fallAll (d.s0, d.s1) ((pairs d.late fs).take k)) 0 a = old) := ⟨_, Lib.hid rfl⟩
                rw [HOLD.out] at hct hso
                go_wp2_with fail
                generalize hw3 : wr.alloc (.cells #[.int .i64 0, .int .i64 (a : Int), .string xt] 81) = w3 at DR1 XD1 hct hft z0 z1 z2 y0 y1 y2 hglt ⊢
                clear hw3 XL hnw hfd1 hfd p1 p2 p3 x0 x1 x2
                refine wp_region_held_drew (S := fun w' => w'.cell? ⟨w2.heap.size, 0, none⟩ = some (.slice (some ⟨g, 0, none⟩) d.s0.length e0) ∧ w'.cell? ⟨wr.heap.size, 0, none⟩ = some (.int .i64 0) ∧ w'.cell? ⟨wr.heap.size, 1, none⟩ = some (.int .i64 (a : Int)) ∧ w'.cell? ⟨wr.heap.size, 2, none⟩ = some (.string xt)) (by kernel_rfl) ⟨z0, y0, y1, y2⟩ (fun hHeld => ?_)
                refine wpAnyH_take (i := 0) (v := ?_) rfl (by kernel_rfl) (by kernel_rfl) (by kernel_rfl) (fun _ _ _ h => h) (Or.inl ⟨by rfl, ?_⟩) (by assumption) ?_
                rotate_left
                · (intro w' hSw; (try dsimp only at hSw); go_simp; try with_reducible rfl)
                try simp only [Act.put]
                refine wpAnyH_take (i := 1) (v := ?_) rfl (by kernel_rfl) (by kernel_rfl) (by kernel_rfl) (fun _ _ _ h => h) (Or.inl ⟨by rfl, ?_⟩) (by assumption) ?_
                rotate_left
                · (intro w' hSw; (try dsimp only at hSw); go_simp; try with_reducible rfl)
                try simp only [Act.put]
                refine wpAnyH_take (i := 2) (v := ?_) rfl (by kernel_rfl) (by kernel_rfl) (by kernel_rfl) (fun _ _ _ h => h) (Or.inl ⟨by rfl, ?_⟩) (by assumption) ?_
                rotate_left
                · (intro w' hSw; (try dsimp only at hSw); go_simp; try with_reducible rfl)
                try simp only [Act.put]
                refine wpAnyH_take (i := 3) (v := ?_) rfl (by kernel_rfl) (by kernel_rfl) (by kernel_rfl) (fun _ _ _ h => h) (Or.inl ⟨by rfl, ?_⟩) (by assumption) ?_
                rotate_left
                · (intro w' hSw; (try dsimp only at hSw); go_simp; try with_reducible rfl)
                try simp only [Act.put]
                refine wpAnyH_take (i := 4) (v := ?_) rfl (by kernel_rfl) (by kernel_rfl) (by kernel_rfl) (fun _ _ _ h => h) (Or.inl ⟨by rfl, ?_⟩) (by assumption) ?_
                rotate_left
                · (intro w' hSw; (try dsimp only at hSw); go_simp; try with_reducible rfl)
                try simp only [Act.put]
                refine wpAnyH_take (i := 5) (v := ?_) rfl (by kernel_rfl) (by kernel_rfl) (by kernel_rfl) (fun _ _ _ h => h) (Or.inl ⟨by rfl, ?_⟩) (by assumption) ?_
                rotate_left
                · (intro w' hSw; (try dsimp only at hSw); go_simp; try with_reducible rfl)
                try simp only [Act.put]
                refine wpAnyH_take (i := 6) (v := ?_) rfl (by kernel_rfl) (by kernel_rfl) (by kernel_rfl) (fun _ _ _ h => h) (Or.inl ⟨by rfl, ?_⟩) (by assumption) ?_
                rotate_left
                · (intro w' hSw; (try dsimp only at hSw); go_simp; try with_reducible rfl)
                try simp only [Act.put]
                refine wpAnyH_take (i := 7) (v := ?_) rfl (by kernel_rfl) (by kernel_rfl) (by kernel_rfl) (fun _ _ _ h => h) (Or.inl ⟨by rfl, ?_⟩) (by assumption) ?_
                rotate_left
                · (intro w' hSw; (try dsimp only at hSw); go_simp; try with_reducible rfl)
                try simp only [Act.put]
                refine wpAnyH_take (i := 8) (v := ?_) rfl (by kernel_rfl) (by kernel_rfl) (by kernel_rfl) (fun _ _ _ h => h) (Or.inl ⟨by rfl, ?_⟩) (by assumption) ?_
                rotate_left
                · (intro w' hSw; (try dsimp only at hSw); go_simp; try with_reducible rfl)
                try simp only [Act.put]
                refine wpAnyH_take (i := 9) (v := ?_) rfl (by kernel_rfl) (by kernel_rfl) (by kernel_rfl) (fun _ _ _ h => h) (Or.inl ⟨by rfl, ?_⟩) (by assumption) ?_
                rotate_left
                · (intro w' hSw; (try dsimp only at hSw); go_simp; try with_reducible rfl)
                try simp only [Act.put]
                refine wpAnyH_take (i := 10) (v := ?_) rfl (by kernel_rfl) (by kernel_rfl) (by kernel_rfl) (fun _ _ _ h => h) (Or.inl ⟨by rfl, ?_⟩) (by assumption) ?_
                rotate_left
                · (intro w' hSw; (try dsimp only at hSw); go_simp; try with_reducible rfl)
                try simp only [Act.put]
                refine wpAnyH_take (i := 11) (v := ?_) rfl (by kernel_rfl) (by kernel_rfl) (by kernel_rfl) (fun _ _ _ h => h) (Or.inl ⟨by rfl, ?_⟩) (by assumption) ?_
                rotate_left
                · (intro w' hSw; (try dsimp only at hSw); go_simp; try with_reducible rfl)
                try simp only [Act.put]
                refine wpAnyH_take (i := 12) (v := ?_) rfl (by kernel_rfl) (by kernel_rfl) (by kernel_rfl) (fun _ _ _ h => h) (Or.inl ⟨by rfl, ?_⟩) (by assumption) ?_
                rotate_left
                · (intro w' hSw; (try dsimp only at hSw); go_simp; try with_reducible rfl)
                try simp only [Act.put]
                refine wpAnyH_take (i := 13) (v := ?_) rfl (by kernel_rfl) (by kernel_rfl) (by kernel_rfl) (fun _ _ _ h => h) (Or.inl ⟨by rfl, ?_⟩) (by assumption) ?_
                rotate_left
                · (intro w' hSw; (try dsimp only at hSw); go_simp; try with_reducible rfl)
                try simp only [Act.put]
                refine wpAnyH_take (i := 14) (v := ?_) rfl (by kernel_rfl) (by kernel_rfl) (by kernel_rfl) (fun _ _ _ h => h) (Or.inl ⟨by rfl, ?_⟩) (by assumption) ?_
                rotate_left
                · (intro w' hSw; (try dsimp only at hSw); go_simp; try with_reducible rfl)
                try simp only [Act.put]
                refine wpAnyH_take (i := 16) (v := ?_) rfl (by kernel_rfl) (by kernel_rfl) (by kernel_rfl) (fun _ _ _ h => h) (Or.inl ⟨by rfl, ?_⟩) (by assumption) ?_
                rotate_left
                · (intro w' hSw; (try dsimp only at hSw); go_simp; try with_reducible rfl)
                try simp only [Act.put]
                refine wpAnyH_take (i := 17) (v := ?_) rfl (by kernel_rfl) (by kernel_rfl) (by kernel_rfl) (fun _ _ _ h => h) (Or.inl ⟨by rfl, ?_⟩) (by assumption) ?_
                rotate_left
                · (intro w' hSw; (try dsimp only at hSw); go_simp; try with_reducible rfl)
                try simp only [Act.put]
                refine wpAnyH_ready (rs := [15]) (by kernel_rfl) (by simp) ?_
                refine AllReadyH.cons rfl (fun K hK => ?_) AllReadyH.nil
                go_simp
                refine hK.out _ _ ?_ (fun hHeld2 => ?_)
                · first
                  | go_keep
                  | (go_split_ands
                     refine ⟨?_, ?_, ?_, ?_⟩
                     all_goals (first | assumption | (rw [World.cell?_setCell_far _ _ _ _ (by first | assumption | omega | (simp; omega))]; assumption)))
                clear hK K
                try simp only [Act.put]
                refine wpAnyH_ready (rs := [18]) (by kernel_rfl) (by simp) ?_
                refine AllReadyH.cons rfl (fun K hK => ?_) AllReadyH.nil
                go_simp
                go_at_call 88
                with_reducible refine (l2Torn_any old xt _ hso hsn).mono ?_
                rintro e w5 ⟨rfl, q5, rfl⟩
                go_wp2_with fail
                refine hK.out _ _ ?_ (fun hHeld3 => ?_)
                · first
                  | go_keep
                  | (go_split_ands
                     refine ⟨?_, ?_, ?_, ?_⟩
                     all_goals (first | assumption | (rw [World.cell?_setCell_far _ _ _ _ (by first | assumption | omega | (simp; omega))]; assumption)))
                clear hK K
                try simp only [Act.put]
                refine wpAnyH_take (i := 19) (v := ?_) rfl (by kernel_rfl) (by kernel_rfl) (by kernel_rfl) (fun _ _ _ h => h) (Or.inl ⟨by rfl, ?_⟩) (by assumption) ?_
                rotate_left
                · (intro w' hSw; (try dsimp only at hSw); go_simp; try with_reducible rfl)
                try simp only [Act.put]
                refine wpAnyH_ready (rs := [20]) (by kernel_rfl) (by simp) ?_
                refine AllReadyH.cons rfl (fun K hK => ?_) AllReadyH.nil
                go_simp
                refine hK.out _ _ ?_ (fun hHeld4 => ?_)
                · first
                  | go_keep
                  | (go_split_ands
                     refine ⟨?_, ?_, ?_, ?_⟩
                     all_goals (first | assumption | (rw [World.cell?_setCell_far _ _ _ _ (by first | assumption | omega | (simp; omega))]; assumption)))
                clear hK K
                try simp only [Act.put]
                refine wpAnyH_done (by kernel_rfl) ?_ _
                clear hHeld hHeld2 hHeld3 hHeld4
                have DR2 := Lib.hid (DR1.out.on (w2 := w3.drewN (1 + q5)) ⟨rfl, rfl, rfl, Nat.le_refl _, fun _ _ => rfl⟩)
                have hput := DR2.out.own.put0' a (tornM old xt) hle
                have DR3 := Lib.hid (DR2.out.turned hput.2 hput.1)
                have XD3 := Lib.hid ((XD1.out.drewN (1 + q5)).other (p := ⟨g, a, none⟩) (by simp; omega) (.string (tornM old xt)))
                clear hput
                go_wp2
                go_roundw
                case rel =>
                  refine ⟨k + 1, by omega, by omega, by go_num, XD3, Lib.hid ?_⟩
                  rw [HP.out, show fallStep (fallAll (d.s0, d.s1) ((pairs d.late fs).take k)) (⟨0, (a : Int), xt⟩, 2) = layM (fallAll (d.s0, d.s1) ((pairs d.late fs).take k)) 0 a (tornM old xt) from by unfold fallStep; rw [if_neg (by simp), if_pos rfl, ← HOLD.out]; rfl]
                  exact DR3.out
                case measure => simp [intOf]; omega
              · have hal : a < d.s1.length := by have := HN.out; omega
                have hle : (fallAll (d.s0, d.s1) ((pairs d.late fs).take k)).2.length = d.s1.length := (fallAll_len _ _).2
                have O : World.ownsRow _ _ _ _ _ (fallAll (d.s0, d.s1) ((pairs d.late fs).take k)).2.length (scs (fallAll (d.s0, d.s1) ((pairs d.late fs).take k)).2) := DR1.out.own.o1
                rw [hle] at O
                obtain ⟨g, c', hgf, hgb, hgl⟩ := O.form (by omega)
                injection hgf with hg1 hg2 hg3
                subst hg1
                clear hg2 hg3
                obtain ⟨⟨u, hu, hct⟩, hft, _, hglt⟩ := own_at O a (by omega)
                clear O
                obtain rfl := sect_at (p := (fallAll (d.s0, d.s1) ((pairs d.late fs).take k))) (side := 1) (Or.inr ⟨rfl, hu⟩)
                clear hu
                have hgx : ¬ g = w2.heap.size := fun e => DR1.out.nx (Or.inr (Or.inl (by rw [e]; rfl)))
                have hgw : g < wr.heap.size := (DR.out.own.o1.lt g rfl).2
                have hgw1 : ¬ g = wr.heap.size := by omega
                have hgw2 : ¬ wr.heap.size = g := by omega
                have hgx2 : ¬ w2.heap.size = g := fun e => hgx e.symm
                obtain ⟨z0, z1, z2⟩ := DR1.out.xo.three
                have XL := box_new wr #[.int .i64 1, .int .i64 (a : Int), .string xt] 81
                obtain ⟨y0, y1, y2⟩ := XL.three
                have hall := fallAll_all (B := 1048576) ((pairs d.late fs).take k) (fun y hy => pairs_text HS.out.zl fs y (List.mem_of_mem_take hy)) (d.s0, d.s1) HS.out.z0 HS.out.z1
                have hso : (sectOf (fallAll (d.s0, d.s1) ((pairs d.late fs).take k)) 1 a).size ≤ maxLen := by
                  have := sectOf_all (P := fun s => s.size ≤ 1048576) hall.1 hall.2 (Nat.zero_le _) 1 a
                  unfold maxLen; omega
                clear hall
                have hsn : xt.size ≤ maxLen := by unfold maxLen; omega
                obtain ⟨old, HOLD⟩ : ∃ old, Hid (sectOf (fallAll (d.s0, d.s1) ((pairs d.late fs).take k)) 1 a = old) := ⟨_, Lib.hid rfl⟩
                rw [HOLD.out] at hct hso
                go_wp2_with fail
                generalize hw3 : wr.alloc (.cells #[.int .i64 1, .int .i64 (a : Int), .string xt] 81) = w3 at DR1 XD1 hct hft z0 z1 z2 y0 y1 y2 hglt ⊢
                clear hw3 XL hnw hfd1 hfd p1 p2 p3 x0 x1 x2
                refine wp_region_held_drew (S := fun w' => w'.cell? ⟨w2.heap.size, 1, none⟩ = some (.slice (some ⟨g, 0, none⟩) d.s1.length e1) ∧ w'.cell? ⟨wr.heap.size, 0, none⟩ = some (.int .i64 1) ∧ w'.cell? ⟨wr.heap.size, 1, none⟩ = some (.int .i64 (a : Int)) ∧ w'.cell? ⟨wr.heap.size, 2, none⟩ = some (.string xt)) (by kernel_rfl) ⟨z1, y0, y1, y2⟩ (fun hHeld => ?_)
                refine wpAnyH_take (i := 0) (v := ?_) rfl (by kernel_rfl) (by kernel_rfl) (by kernel_rfl) (fun _ _ _ h => h) (Or.inl ⟨by rfl, ?_⟩) (by assumption) ?_
                rotate_left
                · (intro w' hSw; (try dsimp only at hSw); go_simp; try with_reducible rfl)
                try simp only [Act.put]
                refine wpAnyH_take (i := 1) (v := ?_) rfl (by kernel_rfl) (by kernel_rfl) (by kernel_rfl) (fun _ _ _ h => h) (Or.inl ⟨by rfl, ?_⟩) (by assumption) ?_
                rotate_left
                · (intro w' hSw; (try dsimp only at hSw); go_simp; try with_reducible rfl)
                try simp only [Act.put]
                refine wpAnyH_take (i := 2) (v := ?_) rfl (by kernel_rfl) (by kernel_rfl) (by kernel_rfl) (fun _ _ _ h => h) (Or.inl ⟨by rfl, ?_⟩) (by assumption) ?_
                rotate_left
                · (intro w' hSw; (try dsimp only at hSw); go_simp; try with_reducible rfl)
                try simp only [Act.put]
                refine wpAnyH_take (i := 3) (v := ?_) rfl (by kernel_rfl) (by kernel_rfl) (by kernel_rfl) (fun _ _ _ h => h) (Or.inl ⟨by rfl, ?_⟩) (by assumption) ?_
                rotate_left
                · (intro w' hSw; (try dsimp only at hSw); go_simp; try with_reducible rfl)
                try simp only [Act.put]
                refine wpAnyH_take (i := 4) (v := ?_) rfl (by kernel_rfl) (by kernel_rfl) (by kernel_rfl) (fun _ _ _ h => h) (Or.inl ⟨by rfl, ?_⟩) (by assumption) ?_
                rotate_left
                · (intro w' hSw; (try dsimp only at hSw); go_simp; try with_reducible rfl)
                try simp only [Act.put]
                refine wpAnyH_take (i := 5) (v := ?_) rfl (by kernel_rfl) (by kernel_rfl) (by kernel_rfl) (fun _ _ _ h => h) (Or.inl ⟨by rfl, ?_⟩) (by assumption) ?_
                rotate_left
                · (intro w' hSw; (try dsimp only at hSw); go_simp; try with_reducible rfl)
                try simp only [Act.put]
                refine wpAnyH_take (i := 6) (v := ?_) rfl (by kernel_rfl) (by kernel_rfl) (by kernel_rfl) (fun _ _ _ h => h) (Or.inl ⟨by rfl, ?_⟩) (by assumption) ?_
                rotate_left
                · (intro w' hSw; (try dsimp only at hSw); go_simp; try with_reducible rfl)
                try simp only [Act.put]
                refine wpAnyH_take (i := 7) (v := ?_) rfl (by kernel_rfl) (by kernel_rfl) (by kernel_rfl) (fun _ _ _ h => h) (Or.inl ⟨by rfl, ?_⟩) (by assumption) ?_
                rotate_left
                · (intro w' hSw; (try dsimp only at hSw); go_simp; try with_reducible rfl)
                try simp only [Act.put]
                refine wpAnyH_take (i := 8) (v := ?_) rfl (by kernel_rfl) (by kernel_rfl) (by kernel_rfl) (fun _ _ _ h => h) (Or.inl ⟨by rfl, ?_⟩) (by assumption) ?_
                rotate_left
                · (intro w' hSw; (try dsimp only at hSw); go_simp; try with_reducible rfl)
                try simp only [Act.put]
                refine wpAnyH_take (i := 9) (v := ?_) rfl (by kernel_rfl) (by kernel_rfl) (by kernel_rfl) (fun _ _ _ h => h) (Or.inl ⟨by rfl, ?_⟩) (by assumption) ?_
                rotate_left
                · (intro w' hSw; (try dsimp only at hSw); go_simp; try with_reducible rfl)
                try simp only [Act.put]
                refine wpAnyH_take (i := 10) (v := ?_) rfl (by kernel_rfl) (by kernel_rfl) (by kernel_rfl) (fun _ _ _ h => h) (Or.inl ⟨by rfl, ?_⟩) (by assumption) ?_
                rotate_left
                · (intro w' hSw; (try dsimp only at hSw); go_simp; try with_reducible rfl)
                try simp only [Act.put]
                refine wpAnyH_take (i := 11) (v := ?_) rfl (by kernel_rfl) (by kernel_rfl) (by kernel_rfl) (fun _ _ _ h => h) (Or.inl ⟨by rfl, ?_⟩) (by assumption) ?_
                rotate_left
                · (intro w' hSw; (try dsimp only at hSw); go_simp; try with_reducible rfl)
                try simp only [Act.put]
                refine wpAnyH_take (i := 12) (v := ?_) rfl (by kernel_rfl) (by kernel_rfl) (by kernel_rfl) (fun _ _ _ h => h) (Or.inl ⟨by rfl, ?_⟩) (by assumption) ?_
                rotate_left
                · (intro w' hSw; (try dsimp only at hSw); go_simp; try with_reducible rfl)
                try simp only [Act.put]
                refine wpAnyH_take (i := 13) (v := ?_) rfl (by kernel_rfl) (by kernel_rfl) (by kernel_rfl) (fun _ _ _ h => h) (Or.inl ⟨by rfl, ?_⟩) (by assumption) ?_
                rotate_left
                · (intro w' hSw; (try dsimp only at hSw); go_simp; try with_reducible rfl)
                try simp only [Act.put]
                refine wpAnyH_take (i := 14) (v := ?_) rfl (by kernel_rfl) (by kernel_rfl) (by kernel_rfl) (fun _ _ _ h => h) (Or.inl ⟨by rfl, ?_⟩) (by assumption) ?_
                rotate_left
                · (intro w' hSw; (try dsimp only at hSw); go_simp; try with_reducible rfl)
                try simp only [Act.put]
                refine wpAnyH_take (i := 16) (v := ?_) rfl (by kernel_rfl) (by kernel_rfl) (by kernel_rfl) (fun _ _ _ h => h) (Or.inl ⟨by rfl, ?_⟩) (by assumption) ?_
                rotate_left
                · (intro w' hSw; (try dsimp only at hSw); go_simp; try with_reducible rfl)
                try simp only [Act.put]
                refine wpAnyH_take (i := 17) (v := ?_) rfl (by kernel_rfl) (by kernel_rfl) (by kernel_rfl) (fun _ _ _ h => h) (Or.inl ⟨by rfl, ?_⟩) (by assumption) ?_
                rotate_left
                · (intro w' hSw; (try dsimp only at hSw); go_simp; try with_reducible rfl)
                try simp only [Act.put]
                refine wpAnyH_ready (rs := [15]) (by kernel_rfl) (by simp) ?_
                refine AllReadyH.cons rfl (fun K hK => ?_) AllReadyH.nil
                go_simp
                refine hK.out _ _ ?_ (fun hHeld2 => ?_)
                · first
                  | go_keep
                  | (go_split_ands
                     refine ⟨?_, ?_, ?_, ?_⟩
                     all_goals (first | assumption | (rw [World.cell?_setCell_far _ _ _ _ (by first | assumption | omega | (simp; omega))]; assumption)))
                clear hK K
                try simp only [Act.put]
                refine wpAnyH_ready (rs := [18]) (by kernel_rfl) (by simp) ?_
                refine AllReadyH.cons rfl (fun K hK => ?_) AllReadyH.nil
                go_simp
                go_at_call 88
                with_reducible refine (l2Torn_any old xt _ hso hsn).mono ?_
                rintro e w5 ⟨rfl, q5, rfl⟩
                go_wp2_with fail
                refine hK.out _ _ ?_ (fun hHeld3 => ?_)
                · first
                  | go_keep
                  | (go_split_ands
                     refine ⟨?_, ?_, ?_, ?_⟩
                     all_goals (first | assumption | (rw [World.cell?_setCell_far _ _ _ _ (by first | assumption | omega | (simp; omega))]; assumption)))
                clear hK K
                try simp only [Act.put]
                refine wpAnyH_take (i := 19) (v := ?_) rfl (by kernel_rfl) (by kernel_rfl) (by kernel_rfl) (fun _ _ _ h => h) (Or.inl ⟨by rfl, ?_⟩) (by assumption) ?_
                rotate_left
                · (intro w' hSw; (try dsimp only at hSw); go_simp; try with_reducible rfl)
                try simp only [Act.put]
                refine wpAnyH_ready (rs := [20]) (by kernel_rfl) (by simp) ?_
                refine AllReadyH.cons rfl (fun K hK => ?_) AllReadyH.nil
                go_simp
                refine hK.out _ _ ?_ (fun hHeld4 => ?_)
                · first
                  | go_keep
                  | (go_split_ands
                     refine ⟨?_, ?_, ?_, ?_⟩
                     all_goals (first | assumption | (rw [World.cell?_setCell_far _ _ _ _ (by first | assumption | omega | (simp; omega))]; assumption)))
                clear hK K
                try simp only [Act.put]
                refine wpAnyH_done (by kernel_rfl) ?_ _
                clear hHeld hHeld2 hHeld3 hHeld4
                have DR2 := Lib.hid (DR1.out.on (w2 := w3.drewN (1 + q5)) ⟨rfl, rfl, rfl, Nat.le_refl _, fun _ _ => rfl⟩)
                have hput := DR2.out.own.put1' a (tornM old xt) hle
                have DR3 := Lib.hid (DR2.out.turned hput.2 hput.1)
                have XD3 := Lib.hid ((XD1.out.drewN (1 + q5)).other (p := ⟨g, a, none⟩) (by simp; omega) (.string (tornM old xt)))
                clear hput
                go_wp2
                go_roundw
                case rel =>
                  refine ⟨k + 1, by omega, by omega, by go_num, XD3, Lib.hid ?_⟩
                  rw [HP.out, show fallStep (fallAll (d.s0, d.s1) ((pairs d.late fs).take k)) (⟨1, (a : Int), xt⟩, 2) = layM (fallAll (d.s0, d.s1) ((pairs d.late fs).take k)) 1 a (tornM old xt) from by unfold fallStep; rw [if_neg (by simp), if_pos rfl, ← HOLD.out]; rfl]
                  exact DR3.out
                case measure => simp [intOf]; omega
            · have HP2 := Lib.hid (show fallStep (fallAll (d.s0, d.s1) ((pairs d.late fs).take k)) (⟨xs, (a : Int), xt⟩, f) = (fallAll (d.s0, d.s1) ((pairs d.late fs).take k)) from by unfold fallStep; rw [if_neg hf1, if_neg hf2])
              go_wp2
              go_roundw
              case rel =>
                refine ⟨k + 1, by omega, by omega, by go_num, XD1, Lib.hid ?_⟩
                rw [HP.out, HP2.out]
                exact DR1.out
              case measure => simp [intOf]; omega
        · have hkk : ¬ (k : Int) < (nf : Int) := by omega
          have hk1 : (k : Int) < (nl : Int) := by omega
          have HE := Lib.hid (fallAll_take (p := (d.s0, d.s1)) (ls := d.late) (fs := fs) (k := k) (by have := HL.out; have := HNF.out; omega))
          rw [HE.out] at DR
          have DR1 := Lib.hid DR.out.noLate
          obtain ⟨z0, z1, z2⟩ := DR.out.xo.three
          obtain ⟨r0, r1, r2⟩ := DR.out.xr.three
          have f0 := DR.out.xr.open_ 0
          have f1 := DR.out.xr.open_ 1
          have f2 := DR.out.xr.open_ 2
          have f3 := DR.out.xo.open_ 2
          have hne : ¬ w.heap.size + 1 = w2.heap.size := by omega
          have hne' : ¬ w2.heap.size = w.heap.size + 1 := by omega
          have q0 := Lib.hid (DR.out.xr.other (p := ⟨w2.heap.size, 2, none⟩) hne (.slice none 0 0))
          go_wp2
          have q1 := q0.out.set 0 (.slice U0 d.s0.length e0)
          have q2 := q1.set 1 (.slice U1 d.s1.length e1)
          have q3 := q2.set 2 (.slice none 0 0)
          refine bodyPost_ret (v := .agg #[.slice U0 d.s0.length e0, .slice U1 d.s1.length e1, .slice none 0 0]) (by simp [results, Tryz.results40, go_sem, q1.cell 0 rfl, q2.cell 1 rfl, q3.cell 2 rfl]) rfl ?_
          rw [HF.out]
          exact DR1.out.agg
      · have hk1 : ¬ (k : Int) < (nl : Int) := by omega
        have HE := Lib.hid (fallAll_take (p := (d.s0, d.s1)) (ls := d.late) (fs := fs) (k := k) (by have := HL.out; have := HNF.out; omega))
        rw [HE.out] at DR
        have DR1 := Lib.hid DR.out.noLate
        obtain ⟨z0, z1, z2⟩ := DR.out.xo.three
        obtain ⟨r0, r1, r2⟩ := DR.out.xr.three
        have f0 := DR.out.xr.open_ 0
        have f1 := DR.out.xr.open_ 1
        have f2 := DR.out.xr.open_ 2
        have f3 := DR.out.xo.open_ 2
        have hne : ¬ w.heap.size + 1 = w2.heap.size := by omega
        have hne' : ¬ w2.heap.size = w.heap.size + 1 := by omega
        have q0 := Lib.hid (DR.out.xr.other (p := ⟨w2.heap.size, 2, none⟩) hne (.slice none 0 0))
        go_wp2
        have q1 := q0.out.set 0 (.slice U0 d.s0.length e0)
        have q2 := q1.set 1 (.slice U1 d.s1.length e1)
        have q3 := q2.set 2 (.slice none 0 0)
        refine bodyPost_ret (v := .agg #[.slice U0 d.s0.length e0, .slice U1 d.s1.length e1, .slice none 0 0]) (by simp [results, Tryz.results40, go_sem, q1.cell 0 rfl, q2.cell 1 rfl, q3.cell 2 rfl]) rfl ?_
        rw [HF.out]
        exact DR1.out.agg
  · have hok' := Lib.hid (decide_eq_false hok)
    have HF := Lib.hid (show fallM d fs = noDisk from if_neg hok)
    clear hok
    go_enter Tryz.func40, Tryz.ntmps40
    go_wp2_with fail
    refine (DiskOk_is _ _ _ d _ RD.out HS.out false hok'.out).mono ?_
    rintro e w1 ⟨rfl, hb⟩
    have XR1 := Lib.hid (XR.out.below hb (by omega))
    have B1 := Lib.hid (B0.out.trans (hb.mono (by omega)))
    clear hb RD XD XR B0 hsz
    obtain ⟨x0, x1, x2⟩ := XR1.out.three
    have f0 := XR1.out.open_ 0
    have f1 := XR1.out.open_ 1
    have f2 := XR1.out.open_ 2
    go_wp2
    have q1 := XR1.out.set 0 (.slice none 0 0)
    have q2 := q1.set 1 (.slice none 0 0)
    have q3 := q2.set 2 (.slice none 0 0)
    refine bodyPost_ret (v := .agg #[.slice none 0 0, .slice none 0 0, .slice none 0 0]) (by simp [results, Tryz.results40, go_sem, q1.cell 0 rfl, q2.cell 1 rfl, q3.cell 2 rfl]) rfl ?_
    rw [HF.out]
    exact ⟨_, _, _, rfl, noDisk_own _ _, ((B1.out.setCell (by simp) _).setCell (by simp) _).setCell (by simp) _⟩
end Go.Proofs.YtobjgdnmlibofaaGreat
