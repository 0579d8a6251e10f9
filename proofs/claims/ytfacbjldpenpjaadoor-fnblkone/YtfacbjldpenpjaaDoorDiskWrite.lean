/-
  spec's DiskWrite.
-/
import Derived.Test.YtfacbjldpenpjaaDoorDiskCopy
import Derived.Test.YtfacbjldpenpjaaDoorDiskRead2
set_option maxRecDepth 100000
namespace Go.Proofs.YtfacbjldpenpjaaDoor
open Go.ChangeShapes Go.WideShapes Go.ChangeAt Go.RowKit Go.Proofs.Palim

def CanWrite (d : DiskM) (side at_ : Int) (text : ByteArray) : Prop := DiskOkM d ∧ There d.s0.length side at_ text.size ∧ d.late.length ≠ 600
instance (d : DiskM) (side at_ : Int) (text : ByteArray) : Decidable (CanWrite d side at_ text) := by unfold CanWrite; infer_instance
def writeM (d : DiskM) (side at_ : Int) (text : ByteArray) : DiskM :=
  if CanWrite d side at_ text then ⟨d.s0, d.s1, d.late ++ [⟨side, at_, text⟩]⟩ else if DiskOkM d then d else noDisk
def NewDisk2 (w : World) (d : DiskM) (b : Bool) (e : Ending) (w' : World) : Prop :=
  ∃ v0 v1 vl, e = .returned (.tuple #[.agg #[v0, v1, vl], .bool b]) ∧ DiskOwn w' w.heap.size v0 v1 vl d ∧ Below w.heap.size w w'

theorem DiskOwn.set3 {w : World} {base : Nat} {v0 v1 vl : Value} {d : DiskM} (h : DiskOwn w base v0 v1 vl d) {a b c : Addr} {x y z : Value} (ha : a.block < base) (hb : b.block < base) (hc : c.block < base) :
    DiskOwn (((w.setCell a x).setCell b y).setCell c z) base v0 v1 vl d :=
  h.kept fun k _ hk => by
    rw [Below.heap_setCell _ _ _ _ (by omega), Below.heap_setCell _ _ _ _ (by omega), Below.heap_setCell _ _ _ _ (by omega)]

set_option maxHeartbeats 1000000 in
theorem DiskWrite_any (v0 v1 vl : Value) (d : DiskM) (side at_ : Int) (text : ByteArray) (w : World) (h : DiskR w v0 v1 vl d) (hs : DiskShort d) (hz : text.size ≤ maxLen) :
    Calls Tryd.prog 43 #[.agg #[v0, v1, vl], .int .i64 side, .int .i64 at_, .string text] w (NewDisk2 w (writeM d side at_ text) (decide (CanWrite d side at_ text))) := by
  have hnot : ∀ (x : Bool) (w : World), (Op.unary .not (.bool x)).run Tryd.prog w = .ok (.bool (!x)) w := fun _ _ => rfl
  obtain ⟨_, A0, c0, rfl, _⟩ := h.r0
  obtain ⟨_, Al, cl, rfl, _⟩ := h.rl
  obtain ⟨j0, hj, hy0, hy1, hy2⟩ := info_parts infoLate
  have HD := Lib.hid h
  have HS := Lib.hid hs
  have hnl := hs.nl
  clear h hs
  obtain ⟨nl, HL⟩ : ∃ n, Hid (d.late.length = n) := ⟨_, Lib.hid rfl⟩
  rw [HL.out] at HD hnl ⊢
  obtain ⟨hA, hR, hsz, hB⟩ := box2 w #[.slice A0 d.s0.length c0, v1, .slice Al nl cl] #[.slice none 0 0, .slice none 0 0, .slice none 0 0] 27 27
  have RD := Lib.hid (HD.out.below hB)
  have XD := Lib.hid hA
  have XR := Lib.hid hR
  have B0 := Lib.hid hB
  clear hA hR hB
  by_cases hok : DiskOkM d
  · have hok' := Lib.hid (decide_eq_true hok)
    have HK := Lib.hid hok
    go_enter Tryd.func43, Tryd.ntmps43
    go_wp2_with fail
    refine (DiskOk_is _ _ _ d _ RD.out HS.out true hok'.out).mono ?_
    rintro e w1 ⟨rfl, hb⟩
    have RD1 := Lib.hid (RD.out.below hb)
    have XD1 := Lib.hid (XD.out.below hb (by omega))
    have XR1 := Lib.hid (XR.out.below hb (by omega))
    have B1 := Lib.hid (B0.out.trans (hb.mono (by omega)))
    have hs1 : w.heap.size + 2 ≤ w1.heap.size := by have := hb.size; omega
    clear hb RD XD XR B0 hsz hok hok'
    obtain ⟨x0, x1, x2⟩ := XD1.out.three
    go_wp2_with fail
    refine (l2Copy_any _ _ _ d _ RD1.out HS.out).mono ?_
    rintro e w2 ⟨u0, u1, ul, rfl, ho, hb⟩
    obtain ⟨U0, e0, U1, e1, Ul, el, rfl, rfl, rfl⟩ := ho.forms
    rw [HL.out] at ho ⊢
    have hn := Below.new (w := w2) (.cells #[.slice U0 d.s0.length e0, .slice U1 d.s1.length e1, .slice Ul nl el] 27)
    have hz2 : w1.heap.size ≤ w2.heap.size := hb.size
    have LO := Lib.hid ho.reads.low
    have RD2 := Lib.hid ((RD1.out.below hb).below hn)
    have XD2 := Lib.hid ((XD1.out.below hb (by omega)).alloc (.cells #[.slice U0 d.s0.length e0, .slice U1 d.s1.length e1, .slice Ul nl el] 27))
    have XR2 := Lib.hid ((XR1.out.below hb (by omega)).alloc (.cells #[.slice U0 d.s0.length e0, .slice U1 d.s1.length e1, .slice Ul nl el] 27))
    have XO2 := Lib.hid (box_new w2 #[.slice U0 d.s0.length e0, .slice U1 d.s1.length e1, .slice Ul nl el] 27)
    have O2 := Lib.hid (ho.below hn)
    have B2 := Lib.hid ((B1.out.trans (hb.mono (by omega))).trans (hn.mono (by omega)))
    clear ho hb hn RD1 XD1 XR1 B1 x0 x1 x2
    obtain ⟨x0, x1, x2⟩ := XD2.out.three
    have hlt := XD2.out.lt
    have hltd : w.heap.size < w2.heap.size := by omega
    go_wp2_with fail
    by_cases hth : There d.s0.length side at_ text.size
    · have hth' := Lib.hid (decide_eq_true hth)
      refine (l2There_is v1 _ A0 _ c0 side at_ text _ hz true hth'.out).mono ?_
      rintro e w3 ⟨rfl, hb⟩
      have XD3 := Lib.hid (XD2.out.below hb XD2.out.lt)
      have XR3 := Lib.hid (XR2.out.below hb XR2.out.lt)
      have XO3 := Lib.hid (show Box w3 w2.heap.size [.slice U0 d.s0.length e0, .slice U1 d.s1.length e1, .slice Ul nl el] from XO2.out.below hb XO2.out.lt)
      have O3 := Lib.hid (O2.out.below hb)
      have B3 := Lib.hid (B2.out.trans (hb.mono (by have := B2.out.size; omega)))
      have hz3 : w2.heap.size + 1 ≤ w3.heap.size := by have := hb.size; simp at this; omega
      clear hb RD2 XD2 XR2 XO2 O2 B2 x0 x1 x2 hlt
      obtain ⟨x0, x1, x2⟩ := XO3.out.three
      obtain ⟨z0, z1, z2⟩ := XR3.out.three
      obtain ⟨y0, y1, y2⟩ := XD3.out.three
      have f0 := XR3.out.open_ 0
      have f1 := XR3.out.open_ 1
      have f2 := XR3.out.open_ 2
      by_cases hn : nl = 600
      · have HF := Lib.hid (show writeM d side at_ text = d from by unfold writeM; rw [if_neg (fun h => h.2.2 (HL.out.trans hn)), if_pos HK.out])
        have HF2 := Lib.hid (decide_eq_false (show ¬ CanWrite d side at_ text from fun h => h.2.2 (HL.out.trans hn)))
        clear hth
        subst hn
        go_wp2
        have q1 := XR3.out.set 0 (.slice U0 d.s0.length e0)
        have q2 := q1.set 1 (.slice U1 d.s1.length e1)
        have q3 := q2.set 2 (.slice Ul 600 el)
        refine bodyPost_ret (v := .tuple #[.agg #[.slice U0 d.s0.length e0, .slice U1 d.s1.length e1, .slice Ul 600 el], .bool false]) (by simp [results, Tryd.results43, go_sem, q1.cell 0 rfl, q2.cell 1 rfl, q3.cell 2 rfl]) rfl ?_
        rw [HF.out, HF2.out]
        refine ⟨_, _, _, rfl, ?_, ((B3.out.setCell (by simp) _).setCell (by simp) _).setCell (by simp) _⟩
        exact (O3.out.set3 (by simp; omega) (by simp; omega) (by simp; omega)).base (by omega)

      · have HF := Lib.hid (show writeM d side at_ text = ⟨d.s0, d.s1, d.late ++ [⟨side, at_, text⟩]⟩ from by unfold writeM; rw [if_pos ⟨HK.out, hth, fun h => hn (HL.out.symm.trans h)⟩])
        have HF2 := Lib.hid (decide_eq_true (show CanWrite d side at_ text from ⟨HK.out, hth, fun h => hn (HL.out.symm.trans h)⟩))
        clear hth
        have hn2 : ¬ ((nl : Int) = 600) := by omega
        have hown := O3.out.ol
        rw [HL.out] at hown
        go_wp2_with (first
          | (at_builtin; refine wpList_append_lies _ rfl _ _ 25 rfl w1.heap.size 79 j0 _ 3 32 Tryd.underlying25 hj hy0 hy1 hy2 rfl (by omega) _ nl (lcs d.late) rfl (hown.alloc _) ⟨w3.heap.size, 0, none⟩ 1 1 (lc ⟨side, at_, text⟩) rfl rfl ?c1 (by simp [lc]; exact ⟨rfl, rfl, rfl⟩) (by omega) (by unfold maxLen; omega) (by omega) (by simp; omega) (w3.heap.size + 1) (by simp) ?_))
        case c1 => exact World.news_of_block (cs := #[.int .i64 side, .int .i64 at_, .string text]) (t := 79) (fr := (0, 0)) (heap_alloc_new w3 _)
        intro g cap w4 hown4 hgrow hat hglt
        have hkeep : ∀ k, k < w3.heap.size → (Value.slice Ul nl el).ownBlock ≠ some k → w4.heap[k]? = w3.heap[k]? := fun k hk hne =>
          (hgrow.block k (by simp; omega) (fun e => hne e.symm)).trans (Below.heap_alloc w3 _ k hk)
        have XO4 := Lib.hid (XO3.out.kept (hkeep _ XO3.out.lt (fun e => by have := LO.out.ll _ e; omega)))
        have XR4 := Lib.hid (XR3.out.kept (hkeep _ XR3.out.lt (fun e => by have := (hown.lt _ e).1; omega)))
        have O40 := Lib.hid (own_kept O3.out.o0 (w' := w4) fun b e => hkeep b (O3.out.o0.lt b e).2 (fun e' => O3.out.p0l b e e'))
        have O41 := Lib.hid (own_kept O3.out.o1 (w' := w4) fun b e => hkeep b (O3.out.o1.lt b e).2 (fun e' => O3.out.p1l b e e'))
        have P0 := Lib.hid (show Apart (.slice U0 d.s0.length e0) (.slice (some ⟨g, 0, none⟩) (nl + 1) cap) from fun b e e' => by
          have hbg : g = b := by simpa [Value.ownBlock] using e'
          subst hbg
          rcases hat with h | h
          · exact O3.out.p0l _ e h
          · have := (O3.out.o0.lt _ e).2; omega)
        have P1 := Lib.hid (show Apart (.slice U1 d.s1.length e1) (.slice (some ⟨g, 0, none⟩) (nl + 1) cap) from fun b e e' => by
          have hbg : g = b := by simpa [Value.ownBlock] using e'
          subst hbg
          rcases hat with h | h
          · exact O3.out.p1l _ e h
          · have := (O3.out.o1.lt _ e).2; omega)
        have P01 := Lib.hid O3.out.p01
        have B4 := Lib.hid ((B3.out.alloc B3.out.size (.cells #[.int .i64 side, .int .i64 at_, .string text] 79)).grown hgrow (by have := B3.out.size; simp; omega) (fun k e => by have := (hown.lt k e).1; omega))
        have OL4 := Lib.hid hown4
        have N0 := Lib.hid (show ∀ b, (Value.slice U0 d.s0.length e0).ownBlock = some b → b ≠ w2.heap.size from fun b e => by have := LO.out.l0 b e; omega)
        have N1 := Lib.hid (show ∀ b, (Value.slice U1 d.s1.length e1).ownBlock = some b → b ≠ w2.heap.size from fun b e => by have := LO.out.l1 b e; omega)
        have NG := Lib.hid (show ∀ b, (Value.slice (some ⟨g, 0, none⟩) (nl + 1) cap).ownBlock = some b → b ≠ w2.heap.size from fun b e => by
          have hbg : g = b := by simpa [Value.ownBlock] using e
          subst hbg
          rcases hat with h | h
          · have := LO.out.ll _ h; omega
          · omega)
        clear hown hown4 hgrow hat hglt hkeep XD3 XR3 XO3 O3 B3 LO x0 x1 x2 y0 y1 y2 z0 z1 z2 f0 f1 f2
        obtain ⟨x0, x1, x2⟩ := XO4.out.three
        obtain ⟨z0, z1, z2⟩ := XR4.out.three
        have f0 := XR4.out.open_ 0
        have f1 := XR4.out.open_ 1
        have f2 := XR4.out.open_ 2
        have f3 := XO4.out.open_ 2
        have hne : ¬ w.heap.size + 1 = w2.heap.size := by omega
        have hne' : ¬ w2.heap.size = w.heap.size + 1 := by omega
        go_wp2
        have q0 := XR4.out.other (p := ⟨w2.heap.size, 2, none⟩) hne (.slice (some ⟨g, 0, none⟩) (nl + 1) cap)
        have q1 := q0.set 0 (.slice U0 d.s0.length e0)
        have q2 := q1.set 1 (.slice U1 d.s1.length e1)
        have q3 := q2.set 2 (.slice (some ⟨g, 0, none⟩) (nl + 1) cap)
        refine bodyPost_ret (v := .tuple #[.agg #[.slice U0 d.s0.length e0, .slice U1 d.s1.length e1, .slice (some ⟨g, 0, none⟩) (nl + 1) cap], .bool true]) (by simp [results, Tryd.results43, go_sem, q1.cell 0 rfl, q2.cell 1 rfl, q3.cell 2 rfl]) rfl ?_
        rw [HF.out, HF2.out]
        refine ⟨_, _, _, rfl, ⟨?_, ?_, ?_, P01.out, P0.out, P1.out⟩, ((((B4.out.setCell (by simp; omega) _).setCell (by simp) _).setCell (by simp) _).setCell (by simp) _)⟩
        · refine own_base (own_kept O40.out fun b e => ?_) (by omega)
          have hb := (O40.out.lt b e).1
          rw [Below.heap_setCell _ _ _ _ (by simp; omega), Below.heap_setCell _ _ _ _ (by simp; omega), Below.heap_setCell _ _ _ _ (by simp; omega), Below.heap_setCell _ _ _ _ (N0.out b e)]
        · refine own_base (own_kept O41.out fun b e => ?_) (by omega)
          have hb := (O41.out.lt b e).1
          rw [Below.heap_setCell _ _ _ _ (by simp; omega), Below.heap_setCell _ _ _ _ (by simp; omega), Below.heap_setCell _ _ _ _ (by simp; omega), Below.heap_setCell _ _ _ _ (N1.out b e)]
        · have hol := OL4.out
          rw [← lcs_snoc] at hol
          have hlen : (d.late ++ [(⟨side, at_, text⟩ : LateM)]).length = nl + 1 := by simp [HL.out]
          show World.ownsRow _ _ _ _ _ (d.late ++ [(⟨side, at_, text⟩ : LateM)]).length _
          rw [hlen]
          refine own_base (own_kept hol fun b e => ?_) (by omega)
          have hb := (hol.lt b e).1
          rw [Below.heap_setCell _ _ _ _ (by simp; omega), Below.heap_setCell _ _ _ _ (by simp; omega), Below.heap_setCell _ _ _ _ (by simp; omega), Below.heap_setCell _ _ _ _ (NG.out b e)]
    · have hth' := Lib.hid (decide_eq_false hth)
      refine (l2There_is v1 _ A0 _ c0 side at_ text _ hz false hth'.out).mono ?_
      rintro e w3 ⟨rfl, hb⟩
      have XD3 := Lib.hid (XD2.out.below hb XD2.out.lt)
      have XR3 := Lib.hid (XR2.out.below hb XR2.out.lt)
      have XO3 := Lib.hid (show Box w3 w2.heap.size [.slice U0 d.s0.length e0, .slice U1 d.s1.length e1, .slice Ul nl el] from XO2.out.below hb XO2.out.lt)
      have O3 := Lib.hid (O2.out.below hb)
      have B3 := Lib.hid (B2.out.trans (hb.mono (by have := B2.out.size; omega)))
      have hz3 : w2.heap.size + 1 ≤ w3.heap.size := by have := hb.size; simp at this; omega
      clear hb RD2 XD2 XR2 XO2 O2 B2 x0 x1 x2 hlt
      obtain ⟨x0, x1, x2⟩ := XO3.out.three
      obtain ⟨z0, z1, z2⟩ := XR3.out.three
      obtain ⟨y0, y1, y2⟩ := XD3.out.three
      have f0 := XR3.out.open_ 0
      have f1 := XR3.out.open_ 1
      have f2 := XR3.out.open_ 2
      have HF := Lib.hid (show writeM d side at_ text = d from by unfold writeM; rw [if_neg (fun h => hth h.2.1), if_pos HK.out])
      have HF2 := Lib.hid (decide_eq_false (show ¬ CanWrite d side at_ text from fun h => hth h.2.1))
      clear hth
      go_wp2
      have q1 := XR3.out.set 0 (.slice U0 d.s0.length e0)
      have q2 := q1.set 1 (.slice U1 d.s1.length e1)
      have q3 := q2.set 2 (.slice Ul nl el)
      refine bodyPost_ret (v := .tuple #[.agg #[.slice U0 d.s0.length e0, .slice U1 d.s1.length e1, .slice Ul nl el], .bool false]) (by simp [results, Tryd.results43, go_sem, q1.cell 0 rfl, q2.cell 1 rfl, q3.cell 2 rfl]) rfl ?_
      rw [HF.out, HF2.out]
      refine ⟨_, _, _, rfl, ?_, ((B3.out.setCell (by simp) _).setCell (by simp) _).setCell (by simp) _⟩
      exact (O3.out.set3 (by simp; omega) (by simp; omega) (by simp; omega)).base (by omega)
  · have hok' := Lib.hid (decide_eq_false hok)
    have HF := Lib.hid (show writeM d side at_ text = noDisk from by unfold writeM; rw [if_neg (fun h => hok h.1), if_neg hok])
    have HF2 := Lib.hid (decide_eq_false (show ¬ CanWrite d side at_ text from fun h => hok h.1))
    rw [HF.out, HF2.out]
    clear hok
    go_enter Tryd.func43, Tryd.ntmps43
    go_wp2_with fail
    refine (DiskOk_is _ _ _ d _ RD.out HS.out false hok'.out).mono ?_
    rintro e w1 ⟨rfl, hb⟩
    have XR1 := Lib.hid (XR.out.below hb (by omega))
    have B1 := Lib.hid (B0.out.trans (hb.mono (by omega)))
    clear hb RD XD XR B0 hsz
    obtain ⟨x0, x1, x2⟩ := XR1.out.three
    have f0 := XR1.out.open_ 0
    have f1 := XR1.out.open_ 1
    have f2 := XR1.out.open_ 2
    go_wp2
    have q1 := XR1.out.set 0 (.slice none 0 0)
    have q2 := q1.set 1 (.slice none 0 0)
    have q3 := q2.set 2 (.slice none 0 0)
    refine bodyPost_ret (v := .tuple #[.agg #[.slice none 0 0, .slice none 0 0, .slice none 0 0], .bool false]) (by simp [results, Tryd.results43, go_sem, q1.cell 0 rfl, q2.cell 1 rfl, q3.cell 2 rfl]) rfl ⟨_, _, _, rfl, noDisk_own _ _, ((B1.out.setCell (by simp) _).setCell (by simp) _).setCell (by simp) _⟩
end Go.Proofs.YtfacbjldpenpjaaDoor
