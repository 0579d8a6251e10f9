/-
  impl's DiskWrite.
-/
import Derived.Test.YtgjlhokakcdpbaaGreatDoorDisks
set_option maxRecDepth 100000
namespace Go.Proofs.YtgjlhokakcdpbaaGreatDoor
open Go.ChangeShapes Go.WideShapes Go.ChangeAt Go.RowKit Go.Proofs.Palim

/-- The late writes of a draft grown by one. -/
theorem Dr.more {w w' w2 : World} {x g cap nl el : Nat} {u0 u1 : Value} {Ul : Option Addr} {d : DiskM} {l : LateM} (h : Dr w w' x u0 u1 (.slice Ul nl el) d) (hnl : d.late.length = nl) (hw : w2.ownsRow (w.heap.size + 2) 103 3 (.slice (some ⟨g, 0, none⟩) (nl + 1) cap) (nl + 1) (lcs d.late ++ lc l))
    (hg : (w'.alloc (.cells (lc l).toArray 103)).grownBy w2 (Value.slice Ul nl el).ownBlock) (hat : (Value.slice Ul nl el).ownBlock = some g ∨ g = w'.heap.size + 1) :
    Dr w (w2.setCell ⟨x, 2, none⟩ (.slice (some ⟨g, 0, none⟩) (nl + 1) cap)) x u0 u1 (.slice (some ⟨g, 0, none⟩) (nl + 1) cap) ⟨d.s0, d.s1, d.late ++ [l]⟩ := by
  have hx := h.hx
  have hxl := h.xo.lt
  have hkeep : ∀ k, k < w'.heap.size → (Value.slice Ul nl el).ownBlock ≠ some k → w2.heap[k]? = w'.heap[k]? := fun k hk hne =>
    (hg.block k (by simp; omega) (fun e => hne e.symm)).trans (Below.heap_alloc w' _ k hk)
  have hgx : g ≠ x := by
    rcases hat with e | e
    · intro e'; exact h.nx (Or.inr (Or.inr (by rw [e, e'])))
    · omega
  have o0 := own_kept h.own.o0 (w' := w2) fun b e => hkeep b (h.own.o0.lt b e).2 (fun e' => h.own.p0l b e e')
  have o1 := own_kept h.own.o1 (w' := w2) fun b e => hkeep b (h.own.o1.lt b e).2 (fun e' => h.own.p1l b e e')
  have p0 : Apart u0 (.slice (some ⟨g, 0, none⟩) (nl + 1) cap) := fun b e e' => by
    have hbg : g = b := by simpa [Value.ownBlock] using e'
    subst hbg
    rcases hat with h' | h'
    · exact h.own.p0l _ e h'
    · have := (h.own.o0.lt _ e).2; omega
  have p1 : Apart u1 (.slice (some ⟨g, 0, none⟩) (nl + 1) cap) := fun b e e' => by
    have hbg : g = b := by simpa [Value.ownBlock] using e'
    subst hbg
    rcases hat with h' | h'
    · exact h.own.p1l _ e h'
    · have := (h.own.o1.lt _ e).2; omega
  refine ⟨(h.xr.kept (hkeep _ h.xr.lt (fun e => by have := (h.own.ol.lt _ e).1; omega))).other (by simp; omega) _,
    (h.xo.kept (hkeep _ h.xo.lt (fun e => h.nx (Or.inr (Or.inr e))))).set 2 _,
    ⟨own_kept o0 fun b e => Below.heap_setCell _ _ _ _ fun e' => h.nx (Or.inl (e.trans (congrArg some e'))), own_kept o1 fun b e => Below.heap_setCell _ _ _ _ fun e' => h.nx (Or.inr (Or.inl (e.trans (congrArg some e')))), ?_, h.own.p01, p0, p1⟩, ?_,
    (((h.below.alloc h.below.size _).grown hg (by have := h.below.size; simp; omega) (fun k e => by have := (h.own.ol.lt k e).1; omega)).setCell (by simp; omega) _), hx⟩
  · have hl : (d.late ++ [l]).length = nl + 1 := by simp [hnl]
    show World.ownsRow _ _ _ _ _ (d.late ++ [l]).length (lcs (d.late ++ [l]))
    rw [hl, lcs_snoc]
    exact own_kept hw fun b e => Below.heap_setCell _ _ _ _ fun e' => hgx ((by simpa [Value.ownBlock] using e : g = b).trans e')
  · rintro (e | e | e)
    · exact h.nx (Or.inl e)
    · exact h.nx (Or.inr (Or.inl e))
    · exact hgx (by simpa [Value.ownBlock] using e)

set_option maxHeartbeats 1000000 in
theorem ImplDiskWrite_any (d : DiskM) (side at_ : Int) (text : ByteArray) (v0 v1 vl : Value) (w : World) (hz : text.size ≤ maxLen) (h : DiskR w v0 v1 vl d) (hs : DiskShort d) :
    Calls Tryz.prog 13 #[.agg #[v0, v1, vl], .int .i64 side, .int .i64 at_, .string text] w (NewDisk2 w (writeM d side at_ text) (decide (CanWrite d side at_ text))) := by
  have hnot : ∀ (x : Bool) (w : World), (Op.unary .not (.bool x)).run Tryz.prog w = .ok (.bool (!x)) w := fun _ _ => rfl
  obtain ⟨_, A0, c0, rfl, _⟩ := h.r0
  obtain ⟨_, A1, c1, rfl, _⟩ := h.r1
  obtain ⟨_, Al, cl, rfl, _⟩ := h.rl
  have HD := Lib.hid h
  have HS := Lib.hid hs
  have hnl := hs.nl
  clear h hs
  obtain ⟨j0, hj, hy0, hy1, hy2⟩ := info_parts infoLate
  obtain ⟨hA, hR, hsz, hB⟩ := box2 w #[.slice A0 d.s0.length c0, .slice A1 d.s1.length c1, .slice Al d.late.length cl] #[.slice none 0 0, .slice none 0 0, .slice none 0 0] 36 36
  have RD := Lib.hid (HD.out.below hB)
  have XD := Lib.hid hA
  have XR := Lib.hid hR
  have B0 := Lib.hid hB
  clear hA hR hB
  by_cases hok : DiskOkM d
  · have hok' := Lib.hid (decide_eq_true hok)
    have HK := Lib.hid hok
    go_enter Tryz.func13, Tryz.ntmps13
    go_wp2_with fail
    refine (ImOk_is _ _ _ d _ RD.out HS.out true hok'.out).mono ?_
    rintro e w1 ⟨rfl, hb⟩
    have RD1 := Lib.hid (RD.out.below hb)
    have XD1 := Lib.hid (XD.out.below hb (by omega))
    have XR1 := Lib.hid (XR.out.below hb (by omega))
    have B1 := Lib.hid (B0.out.trans (hb.mono (by omega)))
    have hs1 : w.heap.size + 2 ≤ w1.heap.size := by have := hb.size; omega
    clear hb RD XD XR B0 hsz hok hok'
    obtain ⟨x0, x1, x2⟩ := XD1.out.three
    go_wp2_with fail
    refine (diskCopy_any _ _ _ d _ RD1.out HS.out).mono ?_
    rintro e w2 ⟨u0, u1, ul, rfl, ho, hb⟩
    obtain ⟨U0, e0, U1, e1, Ul, el, rfl, rfl, rfl⟩ := ho.forms
    have DR := Lib.hid (dr_start 98 XR1.out B1.out hs1 ho hb)
    have hn := Below.new (w := w2) (.cells #[.slice U0 d.s0.length e0, .slice U1 d.s1.length e1, .slice Ul d.late.length el] 98)
    have RD2 := Lib.hid ((RD1.out.below hb).below hn)
    have XD2 := Lib.hid ((XD1.out.below hb (by omega)).alloc (.cells #[.slice U0 d.s0.length e0, .slice U1 d.s1.length e1, .slice Ul d.late.length el] 98))
    clear ho hb hn RD1 XD1 XR1 B1 x0 x1 x2
    obtain ⟨nl, HL⟩ : ∃ n, Hid (d.late.length = n) := ⟨_, Lib.hid rfl⟩
    rw [HL.out] at DR XD2 hnl ⊢
    have HN := Lib.hid HK.out.2.2.1
    obtain ⟨x0, x1, x2⟩ := XD2.out.three
    by_cases hth : There d.s0.length side at_ text.size
    · have hth' := Lib.hid (decide_eq_true hth)
      go_wp2_with fail
      refine (takes_are _ _ _ d.s0.length _ d.s1.length _ HN.out side at_ text _ hz true hth'.out).mono ?_
      rintro e w3 ⟨rfl, hb⟩
      have DR1 := Lib.hid (DR.out.on hb)
      have XD3 := Lib.hid (XD2.out.below hb XD2.out.lt)
      clear hb DR XD2 x0 x1 x2 RD2
      obtain ⟨x0, x1, x2⟩ := XD3.out.three
      obtain ⟨z0, z1, z2⟩ := DR1.out.xo.three
      by_cases hn : nl = 600
      · subst hn
        have HF := Lib.hid (show writeM d side at_ text = d from by unfold writeM; rw [if_neg (fun h => h.2.2 HL.out), if_pos HK.out])
        have HF2 := Lib.hid (decide_eq_false (show ¬ CanWrite d side at_ text from fun h => h.2.2 HL.out))
        have DRX := DR1
        go_wp2_with fail
        refine (disk_any _ _ _ _ _ _ _ _ _ _).mono ?_
        rintro e w5 ⟨rfl, hb⟩
        have DR2 := Lib.hid (DRX.out.on hb)
        clear hb DRX z0 z1 z2
        obtain ⟨r0, r1, r2⟩ := DR2.out.xr.three
        have f0 := DR2.out.xr.open_ 0
        have f1 := DR2.out.xr.open_ 1
        have f2 := DR2.out.xr.open_ 2
        go_wp2
        refine bodyPost_ret (v := .tuple #[.agg #[.slice U0 d.s0.length e0, .slice U1 d.s1.length e1, .slice Ul 600 el], .bool false]) (by simp [results, Tryz.results13, go_sem, DR2.out.cells.1, DR2.out.cells.2.1, DR2.out.cells.2.2]) rfl ?_
        rw [HF.out, HF2.out]
        exact ⟨_, _, _, rfl, DR2.out.back.1, DR2.out.back.2⟩
      · have HF := Lib.hid (show writeM d side at_ text = ⟨d.s0, d.s1, d.late ++ [⟨side, at_, text⟩]⟩ from by unfold writeM; rw [if_pos ⟨HK.out, hth, fun h => hn (HL.out.symm.trans h)⟩])
        have HF2 := Lib.hid (decide_eq_true (show CanWrite d side at_ text from ⟨HK.out, hth, fun h => hn (HL.out.symm.trans h)⟩))
        clear hth
        have hn2 : ¬ ((nl : Int) = 600) := by omega
        have hown := DR1.out.own.ol
        rw [HL.out] at hown
        have hlb := DR1.out.xr.lt
        go_wp2_with (first
          | (at_builtin; refine wpList_append_lies _ rfl _ _ 34 rfl (w.heap.size + 2) 103 j0 _ 3 32 Tryz.underlying34 hj hy0 hy1 hy2 rfl (by omega) _ nl (lcs d.late) rfl (hown.alloc _) ⟨w3.heap.size, 0, none⟩ 1 1 (lc ⟨side, at_, text⟩) rfl rfl ?c1 (by simp [lc]; exact ⟨rfl, rfl, rfl⟩) (by omega) (by unfold maxLen; omega) (by omega) (by simp; omega) (w3.heap.size + 1) (by simp) ?_))
        case c1 => exact World.news_of_block (cs := #[.int .i64 side, .int .i64 at_, .string text]) (t := 103) (fr := (0, 0)) (heap_alloc_new w3 _)
        intro g cap w4 hown4 hgrow hat hglt
        have DRX := Lib.hid (DR1.out.more HL.out hown4 hgrow hat)
        have XO := Lib.hid (DR1.out.xo.kept (w' := w4) (by
          rw [hgrow.block _ (by have := DR1.out.xo.lt; simp; omega) (fun e => DR1.out.nx (Or.inr (Or.inr e.symm)))]
          exact Below.heap_alloc _ _ _ DR1.out.xo.lt))
        clear hown hown4 hgrow hat hglt DR1 x0 x1 x2 XD3 z0 z1 z2
        obtain ⟨y0, y1, y2⟩ := XO.out.three
        have f3 := XO.out.open_ 2
        obtain ⟨z0, z1, z2⟩ := DRX.out.xo.three
        go_wp2_with fail
        refine (disk_any _ _ _ _ _ _ _ _ _ _).mono ?_
        rintro e w5 ⟨rfl, hb⟩
        have DR2 := Lib.hid (DRX.out.on hb)
        clear hb DRX z0 z1 z2
        obtain ⟨r0, r1, r2⟩ := DR2.out.xr.three
        have f0 := DR2.out.xr.open_ 0
        have f1 := DR2.out.xr.open_ 1
        have f2 := DR2.out.xr.open_ 2
        go_wp2
        refine bodyPost_ret (v := .tuple #[.agg #[.slice U0 d.s0.length e0, .slice U1 d.s1.length e1, .slice (some ⟨g, 0, none⟩) (nl + 1) cap], .bool true]) (by simp [results, Tryz.results13, go_sem, DR2.out.cells.1, DR2.out.cells.2.1, DR2.out.cells.2.2]) rfl ?_
        rw [HF.out, HF2.out]
        exact ⟨_, _, _, rfl, DR2.out.back.1, DR2.out.back.2⟩
    · have hth' := Lib.hid (decide_eq_false hth)
      have HF := Lib.hid (show writeM d side at_ text = d from by unfold writeM; rw [if_neg (fun h => hth h.2.1), if_pos HK.out])
      have HF2 := Lib.hid (decide_eq_false (show ¬ CanWrite d side at_ text from fun h => hth h.2.1))
      go_wp2_with fail
      refine (takes_are _ _ _ d.s0.length _ d.s1.length _ HN.out side at_ text _ hz false hth'.out).mono ?_
      · rintro e w3 ⟨rfl, hb⟩
        have DRX := Lib.hid (DR.out.on hb)
        clear hb DR XD2 x0 x1 x2 RD2
        obtain ⟨z0, z1, z2⟩ := DRX.out.xo.three
        go_wp2_with fail
        refine (disk_any _ _ _ _ _ _ _ _ _ _).mono ?_
        rintro e w5 ⟨rfl, hb⟩
        have DR2 := Lib.hid (DRX.out.on hb)
        clear hb DRX z0 z1 z2
        obtain ⟨r0, r1, r2⟩ := DR2.out.xr.three
        have f0 := DR2.out.xr.open_ 0
        have f1 := DR2.out.xr.open_ 1
        have f2 := DR2.out.xr.open_ 2
        go_wp2
        refine bodyPost_ret (v := .tuple #[.agg #[.slice U0 d.s0.length e0, .slice U1 d.s1.length e1, .slice Ul nl el], .bool false]) (by simp [results, Tryz.results13, go_sem, DR2.out.cells.1, DR2.out.cells.2.1, DR2.out.cells.2.2]) rfl ?_
        rw [HF.out, HF2.out]
        exact ⟨_, _, _, rfl, DR2.out.back.1, DR2.out.back.2⟩
  · have hok' := Lib.hid (decide_eq_false hok)
    have HF := Lib.hid (show writeM d side at_ text = noDisk from by unfold writeM; rw [if_neg (fun h => hok h.1), if_neg hok])
    have HF2 := Lib.hid (decide_eq_false (show ¬ CanWrite d side at_ text from fun h => hok h.1))
    clear hok
    go_enter Tryz.func13, Tryz.ntmps13
    go_wp2_with fail
    refine (ImOk_is _ _ _ d _ RD.out HS.out false hok'.out).mono ?_
    rintro e w1 ⟨rfl, hb⟩
    have XR1 := Lib.hid (XR.out.below hb (by omega))
    have B1 := Lib.hid (B0.out.trans (hb.mono (by omega)))
    clear hb RD XD XR B0 hsz
    obtain ⟨x0, x1, x2⟩ := XR1.out.three
    have f0 := XR1.out.open_ 0
    have f1 := XR1.out.open_ 1
    have f2 := XR1.out.open_ 2
    go_wp2
    have q1 := XR1.out.set 0 (.slice none 0 0)
    have q2 := q1.set 1 (.slice none 0 0)
    have q3 := q2.set 2 (.slice none 0 0)
    refine bodyPost_ret (v := .tuple #[.agg #[.slice none 0 0, .slice none 0 0, .slice none 0 0], .bool false]) (by simp [results, Tryz.results13, go_sem, q1.cell 0 rfl, q2.cell 1 rfl, q3.cell 2 rfl]) rfl ?_
    rw [HF.out, HF2.out]
    exact ⟨_, _, _, rfl, noDisk_own _ _, ((B1.out.setCell (by simp) _).setCell (by simp) _).setCell (by simp) _⟩
end Go.Proofs.YtgjlhokakcdpbaaGreatDoor
