/-
  impl's DiskFlush.
-/
import Derived.Test.YtobjgdnmlibofaaGreatImPut
set_option maxRecDepth 100000
namespace Go.Proofs.YtobjgdnmlibofaaGreat
open Go.ChangeShapes Go.WideShapes Go.ChangeAt Go.RowKit Go.Proofs.Palim

set_option maxHeartbeats 1000000 in
theorem ImplDiskFlush_any (d : DiskM) (v0 v1 vl : Value) (w : World) (h : DiskR w v0 v1 vl d) (hs : DiskShort d) :
    Calls Tryz.prog 35 #[.agg #[v0, v1, vl]] w (NewDisk w (flushM d)) := by
  have hnot : ∀ (x : Bool) (w : World), (Op.unary .not (.bool x)).run Tryz.prog w = .ok (.bool (!x)) w := fun _ _ => rfl
  obtain ⟨_, A0, c0, rfl, _⟩ := h.r0
  obtain ⟨_, A1, c1, rfl, _⟩ := h.r1
  obtain ⟨_, Al, cl, rfl, _⟩ := h.rl
  have HD := Lib.hid h
  have HS := Lib.hid hs
  have hnl := hs.nl
  clear h hs
  obtain ⟨hA, hR, hsz, hB⟩ := box2 w #[.slice A0 d.s0.length c0, .slice A1 d.s1.length c1, .slice Al d.late.length cl] #[.slice none 0 0, .slice none 0 0, .slice none 0 0] 39 39
  have RD := Lib.hid (HD.out.below hB)
  have XD := Lib.hid hA
  have XR := Lib.hid hR
  have B0 := Lib.hid hB
  clear hA hR hB
  by_cases hok : DiskOkM d
  · have hok' := Lib.hid (decide_eq_true hok)
    have HK := Lib.hid hok
    go_enter Tryz.func35, Tryz.ntmps35
    go_wp2_with fail
    refine (ImOk_is _ _ _ d _ RD.out HS.out true hok'.out).mono ?_
    rintro e w1 ⟨rfl, hb⟩
    have RD1 := Lib.hid (RD.out.below hb)
    have XD1 := Lib.hid (XD.out.below hb (by omega))
    have XR1 := Lib.hid (XR.out.below hb (by omega))
    have B1 := Lib.hid (B0.out.trans (hb.mono (by omega)))
    have hs1 : w.heap.size + 2 ≤ w1.heap.size := by have := hb.size; omega
    clear hb RD XD XR B0 hsz hok hok'
    obtain ⟨x0, x1, x2⟩ := XD1.out.three
    go_wp2_with fail
    refine (diskCopy_any _ _ _ d _ RD1.out HS.out).mono ?_
    rintro e w2 ⟨u0, u1, ul, rfl, ho, hb⟩
    obtain ⟨U0, e0, U1, e1, Ul, el, rfl, rfl, rfl⟩ := ho.forms
    have DR := Lib.hid (dr_start 108 XR1.out B1.out hs1 ho hb)
    have hn := Below.new (w := w2) (.cells #[.slice U0 d.s0.length e0, .slice U1 d.s1.length e1, .slice Ul d.late.length el] 108)
    have RD2 := Lib.hid ((RD1.out.below hb).below hn)
    have XD2 := Lib.hid ((XD1.out.below hb (by omega)).alloc (.cells #[.slice U0 d.s0.length e0, .slice U1 d.s1.length e1, .slice Ul d.late.length el] 108))
    clear ho hb hn RD1 XD1 XR1 B1 x0 x1 x2
    have HF := Lib.hid (show flushM d = _ from if_pos HK.out)
    obtain ⟨nl, HL⟩ : ∃ n, Hid (d.late.length = n) := ⟨_, Lib.hid rfl⟩
    rw [HL.out] at DR hnl ⊢
    have LEN := Lib.hid (fun ls => layAll_len ls (d.s0, d.s1))
    have hn0 := HS.out.n0
    have hn1 := HS.out.n1
    obtain ⟨x0, x1, x2⟩ := DR.out.xo.three
    go_wp2
    go_loopw [15] (fun i wr => ∃ k : Nat, k ≤ nl ∧ i = .int .i64 (k : Int) ∧ Hid (Dr w wr w2.heap.size (.slice U0 d.s0.length e0) (.slice U1 d.s1.length e1) (.slice Ul nl el) ⟨(layAll (d.s0, d.s1) (d.late.take k)).1, (layAll (d.s0, d.s1) (d.late.take k)).2, d.late⟩)) (fun i _ => nl - (intOf i).toNat)
    case atStart => exact ⟨0, Nat.zero_le _, rfl, DR⟩
    case round =>
      clear DR x0 x1 x2 RD2 XD2
      obtain ⟨k, hk, rfl, DR⟩ := hrel
      by_cases hlt : k < nl
      · have hll : k < d.late.length := by rw [HL.out]; exact hlt
        have hsl := sl_of_own DR.out.own.ol
        simp only at hsl
        obtain ⟨bl, ol, cl', el', hcl, hml, hcell⟩ := hsl.form (by omega)
        injection el' with el1 el2 el3
        subst el1 el3
        rw [HL.out] at hcl
        unfold maxLen at hml
        have hbll : bl < wr.heap.size := (DR.out.own.ol.lt bl rfl).2
        have hrd := late_read hcell k hll
        have hx := HK.out.2.2.2.2.2.2 _ (List.getElem_mem hll)
        have HP := Lib.hid (show layAll (d.s0, d.s1) (d.late.take (k + 1)) = layM (layAll (d.s0, d.s1) (d.late.take k)) d.late[k].side d.late[k].at_.toNat d.late[k].text from by
          rw [List.take_succ_eq_append_getElem hll, layAll_snoc])
        generalize d.late[k] = x at hrd hx HP
        obtain ⟨p1, p2, p3⟩ := hrd
        have HX := Lib.hid (show Has (layAll (d.s0, d.s1) (d.late.take k)).1.length (layAll (d.s0, d.s1) (d.late.take k)).2.length x.side x.at_ from by
          rw [(LEN.out _).1, (LEN.out _).2]
          show Has d.s0.length d.s1.length _ _
          rw [HK.out.2.2.1]
          exact ((has_there _ _ _ _).2 hx).1)
        have H0 := Lib.hid (show (layAll (d.s0, d.s1) (d.late.take k)).1.length ≤ 1048576 from by rw [(LEN.out _).1]; exact hn0)
        have H1 := Lib.hid (show (layAll (d.s0, d.s1) (d.late.take k)).2.length ≤ 1048576 from by rw [(LEN.out _).2]; exact hn1)
        have DR1 := Lib.hid (DR.out.on (Below.new (.cells #[.int .i64 x.side, .int .i64 x.at_, .string x.text] 81)))
        have hk1 : (k : Int) < (nl : Int) := by omega
        clear hcell el2 hll hx hsl DR
        obtain ⟨x0, x1, x2⟩ := DR1.out.xo.three
        go_wp2_with fail
        refine (put_any _ _ _ ⟨(layAll (d.s0, d.s1) (d.late.take k)).1, (layAll (d.s0, d.s1) (d.late.take k)).2, d.late⟩ _ x.side x.at_ x.text _ DR1.out.own H0.out H1.out HX.out).mono ?_
        rintro e w3 ⟨rfl, ho, ht⟩
        have DR2 := Lib.hid (DR1.out.turned ht ho)
        clear ho ht DR1 x0 x1 x2 p1 p2 p3
        go_wp2
        go_roundw
        case rel =>
          refine ⟨k + 1, by omega, by go_num, Lib.hid ?_⟩
          rw [HP.out]
          exact DR2.out
        case measure => simp [intOf]; omega
      · have HE := Lib.hid (show d.late.take k = d.late from List.take_of_length_le (by rw [HL.out]; omega))
        rw [HE.out] at DR
        have DR1 := Lib.hid DR.out.noLate
        obtain ⟨z0, z1, z2⟩ := DR.out.xo.three
        have f3 := DR.out.xo.open_ 2
        obtain ⟨z0, z1, z2⟩ := DR1.out.xo.three
        go_wp2_with fail
        refine (disk_any _ _ _ _ _ _ _ _ _ _).mono ?_
        rintro e w4 ⟨rfl, hb⟩
        have DR2 := Lib.hid (DR1.out.on hb)
        clear DR DR1 hb z0 z1 z2 f3
        obtain ⟨r0, r1, r2⟩ := DR2.out.xr.three
        have f0 := DR2.out.xr.open_ 0
        have f1 := DR2.out.xr.open_ 1
        have f2 := DR2.out.xr.open_ 2
        go_wp2
        refine bodyPost_ret (v := .agg #[.slice U0 d.s0.length e0, .slice U1 d.s1.length e1, .slice none 0 0]) (by simp [results, Tryz.results35, go_sem, DR2.out.cells.1, DR2.out.cells.2.1, DR2.out.cells.2.2]) rfl (by rw [HF.out]; exact DR2.out.agg)
  · have hok' := Lib.hid (decide_eq_false hok)
    have HF := Lib.hid (show flushM d = noDisk from if_neg hok)
    clear hok
    go_enter Tryz.func35, Tryz.ntmps35
    go_wp2_with fail
    refine (ImOk_is _ _ _ d _ RD.out HS.out false hok'.out).mono ?_
    rintro e w1 ⟨rfl, hb⟩
    have XR1 := Lib.hid (XR.out.below hb (by omega))
    have B1 := Lib.hid (B0.out.trans (hb.mono (by omega)))
    clear hb RD XD XR B0 hsz
    obtain ⟨x0, x1, x2⟩ := XR1.out.three
    have f0 := XR1.out.open_ 0
    have f1 := XR1.out.open_ 1
    have f2 := XR1.out.open_ 2
    go_wp2
    have q1 := XR1.out.set 0 (.slice none 0 0)
    have q2 := q1.set 1 (.slice none 0 0)
    have q3 := q2.set 2 (.slice none 0 0)
    refine bodyPost_ret (v := .agg #[.slice none 0 0, .slice none 0 0, .slice none 0 0]) (by simp [results, Tryz.results35, go_sem, q1.cell 0 rfl, q2.cell 1 rfl, q3.cell 2 rfl]) rfl ?_
    rw [HF.out]
    exact ⟨_, _, _, rfl, noDisk_own _ _, ((B1.out.setCell (by simp) _).setCell (by simp) _).setCell (by simp) _⟩
end Go.Proofs.YtobjgdnmlibofaaGreat
