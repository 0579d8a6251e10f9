/-
  spec's DiskFlush.
-/
import Derived.Test.YtobjgdnmlibofaaGreatDiskWrite
import Derived.StillTailTactics
set_option maxRecDepth 100000
namespace Go.Proofs.YtobjgdnmlibofaaGreat
open Go.ChangeShapes Go.WideShapes Go.ChangeAt Go.RowKit Go.Proofs.Palim

/-- One late write laid down. -/
def layM (p : List ByteArray × List ByteArray) (side : Int) (k : Nat) (t : ByteArray) : List ByteArray × List ByteArray := if side = 0 then (p.1.set k t, p.2) else (p.1, p.2.set k t)
def layAll (p : List ByteArray × List ByteArray) (ls : List LateM) : List ByteArray × List ByteArray := ls.foldl (fun p l => layM p l.side l.at_.toNat l.text) p
theorem layM_len (p : List ByteArray × List ByteArray) (side : Int) (k : Nat) (t : ByteArray) : (layM p side k t).1.length = p.1.length ∧ (layM p side k t).2.length = p.2.length := by unfold layM; split <;> simp
theorem layAll_snoc (p : List ByteArray × List ByteArray) (ls : List LateM) (l : LateM) : layAll p (ls ++ [l]) = layM (layAll p ls) l.side l.at_.toNat l.text := by simp [layAll]
theorem layAll_len (ls : List LateM) : ∀ p : List ByteArray × List ByteArray, (layAll p ls).1.length = p.1.length ∧ (layAll p ls).2.length = p.2.length := by
  induction ls with
  | nil => intro p; exact ⟨rfl, rfl⟩
  | cons l ls ih =>
    intro p
    have h := ih (layM p l.side l.at_.toNat l.text)
    have h2 := layM_len p l.side l.at_.toNat l.text
    exact ⟨h.1.trans h2.1, h.2.trans h2.2⟩
def flushM (d : DiskM) : DiskM := if DiskOkM d then ⟨(layAll (d.s0, d.s1) d.late).1, (layAll (d.s0, d.s1) d.late).2, []⟩ else noDisk
theorem scs_set (ss : List ByteArray) (k : Nat) (t : ByteArray) : (scs ss).set k (.string t) = scs (ss.set k t) := by simp [scs, List.map_set]

set_option maxHeartbeats 1000000 in
theorem DiskFlush_any (v0 v1 vl : Value) (d : DiskM) (w : World) (h : DiskR w v0 v1 vl d) (hs : DiskShort d) :
    Calls Tryz.prog 33 #[.agg #[v0, v1, vl]] w (NewDisk w (flushM d)) := by
  have hnot : ∀ (x : Bool) (w : World), (Op.unary .not (.bool x)).run Tryz.prog w = .ok (.bool (!x)) w := fun _ _ => rfl
  obtain ⟨_, Al, cl, rfl, _⟩ := h.rl
  have HD := Lib.hid h
  have HS := Lib.hid hs
  have hnl := hs.nl
  clear h hs
  obtain ⟨nl, HL⟩ : ∃ n, Hid (d.late.length = n) := ⟨_, Lib.hid rfl⟩
  rw [HL.out] at HD hnl ⊢
  obtain ⟨hA, hR, hsz, hB⟩ := box2 w #[v0, v1, .slice Al nl cl] #[.slice none 0 0, .slice none 0 0, .slice none 0 0] 39 39
  have RD := Lib.hid (HD.out.below hB)
  have XD := Lib.hid hA
  have XR := Lib.hid hR
  have B0 := Lib.hid hB
  clear hA hR hB
  by_cases hok : DiskOkM d
  · have hok' := Lib.hid (decide_eq_true hok)
    have HF := Lib.hid (show flushM d = _ from if_pos hok)
    have HK := Lib.hid hok
    go_enter Tryz.func33, Tryz.ntmps33
    go_wp2_with fail
    refine (DiskOk_is _ _ _ d _ RD.out HS.out true hok'.out).mono ?_
    rintro e w1 ⟨rfl, hb⟩
    have RD1 := Lib.hid (RD.out.below hb)
    have XD1 := Lib.hid (XD.out.below hb (by omega))
    have XR1 := Lib.hid (XR.out.below hb (by omega))
    have B1 := Lib.hid (B0.out.trans (hb.mono (by omega)))
    have hs1 : w.heap.size + 2 ≤ w1.heap.size := by have := hb.size; omega
    clear hb RD XD XR B0 hsz hok hok'
    obtain ⟨x0, x1, x2⟩ := XD1.out.three
    go_wp2_with fail
    refine (l2Copy_any _ _ _ d _ RD1.out HS.out).mono ?_
    rintro e w2 ⟨u0, u1, ul, rfl, ho, hb⟩
    obtain ⟨U0, e0, U1, e1, Ul, el, rfl, rfl, rfl⟩ := ho.forms
    rw [HL.out] at ho ⊢
    have hn := Below.new (w := w2) (.cells #[.slice U0 d.s0.length e0, .slice U1 d.s1.length e1, .slice Ul nl el] 39)
    have hz2 : w1.heap.size ≤ w2.heap.size := hb.size
    have LO := Lib.hid ho.reads.low
    have RD2 := Lib.hid ((RD1.out.below hb).below hn)
    have XD2 := Lib.hid ((XD1.out.below hb (by omega)).alloc (.cells #[.slice U0 d.s0.length e0, .slice U1 d.s1.length e1, .slice Ul nl el] 39))
    have XR2 := Lib.hid ((XR1.out.below hb (by omega)).alloc (.cells #[.slice U0 d.s0.length e0, .slice U1 d.s1.length e1, .slice Ul nl el] 39))
    have XO2 := Lib.hid (box_new w2 #[.slice U0 d.s0.length e0, .slice U1 d.s1.length e1, .slice Ul nl el] 39)
    have O2 := Lib.hid (ho.below hn)
    have B2 := Lib.hid ((B1.out.trans (hb.mono (by omega))).trans (hn.mono (by omega)))
    clear ho hb hn RD1 XD1 XR1 B1 x0 x1 x2
    obtain ⟨hn0, hn1, hn2, hn3, hz0, hz1, hth⟩ := HK.out
    obtain ⟨g0, c0', e0', hg0b, hg0⟩ := O2.out.o0.form (by omega)
    obtain ⟨g1, c1', e1', hg1b, hg1⟩ := O2.out.o1.form (by omega)
    injection e0' with e0' e0'' e0'''
    injection e1' with e1' e1'' e1'''
    subst e0' e1'
    clear e0'' e0''' e1'' e1'''
    have hg0l : g0 < w2.heap.size := LO.out.l0 g0 rfl
    have hg1l : g1 < w2.heap.size := LO.out.l1 g1 rfl
    have hg01 : g0 ≠ g1 := fun e => O2.out.p01 g0 rfl (by rw [e]; rfl)
    have HTH := Lib.hid hth
    have HN2 := Lib.hid hn2
    have LR := Lib.hid RD2.out.rl
    have LL := Lib.hid RD2.out.ll
    clear hn0 hn1 hn2 hn3 hz0 hz1 hth LR LL
    go_wp2
    go_loopw [4] (fun i wr => ∃ k : Nat, k ≤ nl ∧ i = .int .i64 (k : Int) ∧ Hid (Box wr w.heap.size [v0, v1, .slice Al nl cl]) ∧ Hid (Box wr w2.heap.size [.slice (some ⟨g0, 0, none⟩) d.s0.length e0, .slice (some ⟨g1, 0, none⟩) d.s1.length e1, .slice Ul nl el]) ∧
        Hid (Box wr (w.heap.size + 1) [.slice none 0 0, .slice none 0 0, .slice none 0 0]) ∧ w2.heap.size + 1 ≤ wr.heap.size ∧ Hid (Below w.heap.size w wr) ∧
        Hid (wr.ownsRow w1.heap.size 9 1 (.slice (some ⟨g0, 0, none⟩) d.s0.length e0) d.s0.length (scs (layAll (d.s0, d.s1) (d.late.take k)).1)) ∧
        Hid (wr.ownsRow w1.heap.size 9 1 (.slice (some ⟨g1, 0, none⟩) d.s1.length e1) d.s1.length (scs (layAll (d.s0, d.s1) (d.late.take k)).2))) (fun i _ => nl - (intOf i).toNat)
    case atStart => exact ⟨0, Nat.zero_le _, rfl, XD2, XO2, XR2, by simp, B2, Lib.hid O2.out.o0, Lib.hid O2.out.o1⟩
    case round =>
      obtain ⟨k, hk, rfl, XD, XO, XR, hsz, B, O0, O1⟩ := hrel
      by_cases hlt : k < nl
      · have hll : k < d.late.length := by rw [HL.out]; exact hlt
        obtain ⟨bl, ol, cl', el', hcl, hml, hcell⟩ := HD.out.rl.form (by have := HL.out; omega)
        injection el' with el1 el2 el3
        subst el1 el3
        rw [HL.out] at hcl
        unfold maxLen at hml
        have hbll : bl < w.heap.size := HD.out.ll bl rfl
        have hrd := late_read (fun j u hu => (B.out.cell hbll).trans (hcell j u hu)) k hll
        have hx := HTH.out _ (List.getElem_mem hll)
        have HP := Lib.hid (show layAll (d.s0, d.s1) (d.late.take (k + 1)) = layM (layAll (d.s0, d.s1) (d.late.take k)) d.late[k].side d.late[k].at_.toNat d.late[k].text from by
          rw [List.take_succ_eq_append_getElem hll, layAll_snoc])
        generalize d.late[k] = x at hrd hx HP
        obtain ⟨xs, xa, x3⟩ := x
        obtain ⟨hx1, hx2, hx3, hx4, hx5⟩ := hx
        simp only at hrd hx1 hx2 hx3 hx4 hx5 HP
        obtain ⟨k2, rfl⟩ : ∃ k2 : Nat, xa = k2 := ⟨xa.toNat, by omega⟩
        obtain ⟨p1, p2, p3⟩ := hrd
        have hk1 : (k : Int) < (nl : Int) := by omega
        have hk2 : (k2 : Int) < (d.s0.length : Int) := hx4
        have hk3 : (k2 : Int) < (d.s1.length : Int) := by have := HN2.out; omega
        clear hcell el2 hll hx5
        have hsd : xs = 0 ∨ xs = 1 := by omega
        rcases hsd with rfl | rfl
        · -- side 0
          obtain ⟨⟨t, _, hct⟩, hft, _, _⟩ := own_at O0.out k2 (by omega)
          have O0' := Lib.hid (own_set O0.out k2 (.string x3))
          have O1' := Lib.hid (own_kept O1.out (w' := wr.setCell ⟨g0, k2, none⟩ (.string x3)) fun b e => Below.heap_setCell _ _ _ _ (by
            have hb : g1 = b := by simpa [Value.ownBlock] using e
            simp; omega))
          have XD' := Lib.hid (XD.out.other (p := ⟨g0, k2, none⟩) (by simp; omega) (.string x3))
          have XO' := Lib.hid (XO.out.other (p := ⟨g0, k2, none⟩) (by simp; omega) (.string x3))
          have XR' := Lib.hid (XR.out.other (p := ⟨g0, k2, none⟩) (by simp; omega) (.string x3))
          have B' := Lib.hid (B.out.setCell (p := ⟨g0, k2, none⟩) (by simp; omega) (.string x3))
          have hsz' : w2.heap.size + 1 ≤ (wr.setCell ⟨g0, k2, none⟩ (.string x3)).heap.size := by simpa using hsz
          obtain ⟨y0, y1, y2⟩ := XD.out.three
          obtain ⟨z0, z1, z2⟩ := XO.out.three
          clear O0 O1 XD XO XR B
          go_wp2_with fail
          go_still_tail 22, (by kernel_rfl)
          change wpList _ _ _ _ _ wr.drew
          go_wp2
          go_roundw
          case rel =>
            refine ⟨k + 1, by omega, by go_num, XD', XO', XR', hsz', Lib.hid B'.out.drew, Lib.hid ?_, Lib.hid ?_⟩
            · rw [HP.out]; have h := O0'.out; rw [scs_set] at h; exact h
            · rw [HP.out]; have h := O1'.out; exact h
          case measure => simp [intOf]; omega
        · -- side 1
          obtain ⟨⟨t, _, hct⟩, hft, _, _⟩ := own_at O1.out k2 (by omega)
          have O1' := Lib.hid (own_set O1.out k2 (.string x3))
          have O0' := Lib.hid (own_kept O0.out (w' := wr.setCell ⟨g1, k2, none⟩ (.string x3)) fun b e => Below.heap_setCell _ _ _ _ (by
            have hb : g0 = b := by simpa [Value.ownBlock] using e
            simp; omega))
          have XD' := Lib.hid (XD.out.other (p := ⟨g1, k2, none⟩) (by simp; omega) (.string x3))
          have XO' := Lib.hid (XO.out.other (p := ⟨g1, k2, none⟩) (by simp; omega) (.string x3))
          have XR' := Lib.hid (XR.out.other (p := ⟨g1, k2, none⟩) (by simp; omega) (.string x3))
          have B' := Lib.hid (B.out.setCell (p := ⟨g1, k2, none⟩) (by simp; omega) (.string x3))
          have hsz' : w2.heap.size + 1 ≤ (wr.setCell ⟨g1, k2, none⟩ (.string x3)).heap.size := by simpa using hsz
          obtain ⟨y0, y1, y2⟩ := XD.out.three
          obtain ⟨z0, z1, z2⟩ := XO.out.three
          clear O0 O1 XD XO XR B
          go_wp2_with fail
          go_still_tail 22, (by kernel_rfl)
          change wpList _ _ _ _ _ wr.drew
          go_wp2
          go_roundw
          case rel =>
            refine ⟨k + 1, by omega, by go_num, XD', XO', XR', hsz', Lib.hid B'.out.drew, Lib.hid ?_, Lib.hid ?_⟩
            · rw [HP.out]; have h := O0'.out; exact h
            · rw [HP.out]; have h := O1'.out; rw [scs_set] at h; exact h
          case measure => simp [intOf]; omega
      · have HE := Lib.hid (show d.late.take k = d.late from List.take_of_length_le (by rw [HL.out]; omega))
        obtain ⟨z0, z1, z2⟩ := XO.out.three
        obtain ⟨r0, r1, r2⟩ := XR.out.three
        have f0 := XR.out.open_ 0
        have f1 := XR.out.open_ 1
        have f2 := XR.out.open_ 2
        have f3 := XO.out.open_ 2
        have hne : ¬ w.heap.size + 1 = w2.heap.size := by omega
        have hne' : ¬ w2.heap.size = w.heap.size + 1 := by omega
        obtain ⟨y0, y1, y2⟩ := XD.out.three
        go_wp2
        have q0 := XR.out.other (p := ⟨w2.heap.size, 2, none⟩) hne (.slice none 0 0)
        have q1 := q0.set 0 (.slice (some ⟨g0, 0, none⟩) d.s0.length e0)
        have q2 := q1.set 1 (.slice (some ⟨g1, 0, none⟩) d.s1.length e1)
        have q3 := q2.set 2 (.slice none 0 0)
        refine bodyPost_ret (v := .agg #[.slice (some ⟨g0, 0, none⟩) d.s0.length e0, .slice (some ⟨g1, 0, none⟩) d.s1.length e1, .slice none 0 0]) (by simp [results, Tryz.results33, go_sem, q1.cell 0 rfl, q2.cell 1 rfl, q3.cell 2 rfl]) rfl ?_
        rw [HF.out]
        refine ⟨_, _, _, rfl, ⟨?_, ?_, ⟨rfl, .inl ⟨rfl, rfl⟩⟩, fun b e e' => ?_, fun _ _ e => by simp [Value.ownBlock] at e, fun _ _ e => by simp [Value.ownBlock] at e⟩, ((((B.out.setCell (by simp; omega) _).setCell (by simp) _).setCell (by simp) _).setCell (by simp) _)⟩
        · have h := O0.out
          rw [HE.out] at h
          show World.ownsRow _ _ _ _ _ (layAll (d.s0, d.s1) d.late).1.length _
          rw [(layAll_len d.late (d.s0, d.s1)).1]
          refine own_base (own_kept h fun b e => ?_) (by omega)
          have hbg : g0 = b := by simpa [Value.ownBlock] using e
          rw [Below.heap_setCell _ _ _ _ (by simp; omega), Below.heap_setCell _ _ _ _ (by simp; omega), Below.heap_setCell _ _ _ _ (by simp; omega), Below.heap_setCell _ _ _ _ (by simp; omega)]
        · have h := O1.out
          rw [HE.out] at h
          show World.ownsRow _ _ _ _ _ (layAll (d.s0, d.s1) d.late).2.length _
          rw [(layAll_len d.late (d.s0, d.s1)).2]
          refine own_base (own_kept h fun b e => ?_) (by omega)
          have hbg : g1 = b := by simpa [Value.ownBlock] using e
          rw [Below.heap_setCell _ _ _ _ (by simp; omega), Below.heap_setCell _ _ _ _ (by simp; omega), Below.heap_setCell _ _ _ _ (by simp; omega), Below.heap_setCell _ _ _ _ (by simp; omega)]
        · have h1 : g0 = b := by simpa [Value.ownBlock] using e
          have h2 : g1 = b := by simpa [Value.ownBlock] using e'
          omega
  · have hok' := Lib.hid (decide_eq_false hok)
    have HF := Lib.hid (show flushM d = noDisk from if_neg hok)
    clear hok
    go_enter Tryz.func33, Tryz.ntmps33
    go_wp2_with fail
    refine (DiskOk_is _ _ _ d _ RD.out HS.out false hok'.out).mono ?_
    rintro e w1 ⟨rfl, hb⟩
    have XR1 := Lib.hid (XR.out.below hb (by omega))
    have B1 := Lib.hid (B0.out.trans (hb.mono (by omega)))
    clear hb RD XD XR B0 hsz
    obtain ⟨x0, x1, x2⟩ := XR1.out.three
    have f0 := XR1.out.open_ 0
    have f1 := XR1.out.open_ 1
    have f2 := XR1.out.open_ 2
    go_wp2
    have q1 := XR1.out.set 0 (.slice none 0 0)
    have q2 := q1.set 1 (.slice none 0 0)
    have q3 := q2.set 2 (.slice none 0 0)
    refine bodyPost_ret (v := .agg #[.slice none 0 0, .slice none 0 0, .slice none 0 0]) (by simp [results, Tryz.results33, go_sem, q1.cell 0 rfl, q2.cell 1 rfl, q3.cell 2 rfl]) rfl ?_
    rw [HF.out]
    exact ⟨_, _, _, rfl, noDisk_own _ _, ((B1.out.setCell (by simp) _).setCell (by simp) _).setCell (by simp) _⟩
end Go.Proofs.YtobjgdnmlibofaaGreat
