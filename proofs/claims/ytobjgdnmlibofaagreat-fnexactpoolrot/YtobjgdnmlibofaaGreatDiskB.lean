/-
  Texts joined into one.
-/
import Derived.Test.YtobjgdnmlibofaaGreatDiskA
import Derived.StillTailTactics
import Derived.Laws.BitsAllLaws
import Derived.Test.YtobjgdnmlibofaaGreatData

/-
  spec's DiskFlush.
-/
set_option maxRecDepth 100000
namespace Go.Proofs.YtobjgdnmlibofaaGreat
open Go.ChangeShapes Go.WideShapes Go.ChangeAt Go.RowKit Go.Proofs.Palim

/-- One late write laid down. -/
def layM (p : List ByteArray × List ByteArray) (side : Int) (k : Nat) (t : ByteArray) : List ByteArray × List ByteArray := if side = 0 then (p.1.set k t, p.2) else (p.1, p.2.set k t)
def layAll (p : List ByteArray × List ByteArray) (ls : List LateM) : List ByteArray × List ByteArray := ls.foldl (fun p l => layM p l.side l.at_.toNat l.text) p
theorem layM_len (p : List ByteArray × List ByteArray) (side : Int) (k : Nat) (t : ByteArray) : (layM p side k t).1.length = p.1.length ∧ (layM p side k t).2.length = p.2.length := by unfold layM; split <;> simp
theorem layAll_snoc (p : List ByteArray × List ByteArray) (ls : List LateM) (l : LateM) : layAll p (ls ++ [l]) = layM (layAll p ls) l.side l.at_.toNat l.text := by simp [layAll]
theorem layAll_len (ls : List LateM) : ∀ p : List ByteArray × List ByteArray, (layAll p ls).1.length = p.1.length ∧ (layAll p ls).2.length = p.2.length := by
  induction ls with
  | nil => intro p; exact ⟨rfl, rfl⟩
  | cons l ls ih =>
    intro p
    have h := ih (layM p l.side l.at_.toNat l.text)
    have h2 := layM_len p l.side l.at_.toNat l.text
    exact ⟨h.1.trans h2.1, h.2.trans h2.2⟩
def flushM (d : DiskM) : DiskM := if DiskOkM d then ⟨(layAll (d.s0, d.s1) d.late).1, (layAll (d.s0, d.s1) d.late).2, []⟩ else noDisk
theorem scs_set (ss : List ByteArray) (k : Nat) (t : ByteArray) : (scs ss).set k (.string t) = scs (ss.set k t) := by simp [scs, List.map_set]

set_option maxHeartbeats 1000000 in
theorem DiskFlush_any (v0 v1 vl : Value) (d : DiskM) (w : World) (h : DiskR w v0 v1 vl d) (hs : DiskShort d) :
    Calls Tryz.prog 33 #[.agg #[v0, v1, vl]] w (NewDisk w (flushM d)) := by
  have hnot : ∀ (x : Bool) (w : World), (Op.unary .not (.bool x)).run Tryz.prog w = .ok (.bool (!x)) w := fun _ _ => rfl
  obtain ⟨_, Al, cl, rfl, _⟩ := h.rl
  have HD := Lib.hid h
  have HS := Lib.hid hs
  have hnl := hs.nl
  clear h hs
  obtain ⟨nl, HL⟩ : ∃ n, Hid (d.late.length = n) := ⟨_, Lib.hid rfl⟩
  rw [HL.out] at HD hnl ⊢
  obtain ⟨hA, hR, hsz, hB⟩ := box2 w #[v0, v1, .slice Al nl cl] #[.slice none 0 0, .slice none 0 0, .slice none 0 0] 39 39
  have RD := Lib.hid (HD.out.below hB)
  have XD := Lib.hid hA
  have XR := Lib.hid hR
  have B0 := Lib.hid hB
  clear hA hR hB
  by_cases hok : DiskOkM d
  · have hok' := Lib.hid (decide_eq_true hok)
    have HF := Lib.hid (show flushM d = _ from if_pos hok)
    have HK := Lib.hid hok
    go_enter Tryz.func33, Tryz.ntmps33
    go_wp2_with fail
    refine (DiskOk_is _ _ _ d _ RD.out HS.out true hok'.out).mono ?_
    rintro e w1 ⟨rfl, hb⟩
    have RD1 := Lib.hid (RD.out.below hb)
    have XD1 := Lib.hid (XD.out.below hb (by omega))
    have XR1 := Lib.hid (XR.out.below hb (by omega))
    have B1 := Lib.hid (B0.out.trans (hb.mono (by omega)))
    have hs1 : w.heap.size + 2 ≤ w1.heap.size := by have := hb.size; omega
    clear hb RD XD XR B0 hsz hok hok'
    obtain ⟨x0, x1, x2⟩ := XD1.out.three
    go_wp2_with fail
    refine (l2Copy_any _ _ _ d _ RD1.out HS.out).mono ?_
    rintro e w2 ⟨u0, u1, ul, rfl, ho, hb⟩
    obtain ⟨U0, e0, U1, e1, Ul, el, rfl, rfl, rfl⟩ := ho.forms
    rw [HL.out] at ho ⊢
    have hn := Below.new (w := w2) (.cells #[.slice U0 d.s0.length e0, .slice U1 d.s1.length e1, .slice Ul nl el] 39)
    have hz2 : w1.heap.size ≤ w2.heap.size := hb.size
    have LO := Lib.hid ho.reads.low
    have RD2 := Lib.hid ((RD1.out.below hb).below hn)
    have XD2 := Lib.hid ((XD1.out.below hb (by omega)).alloc (.cells #[.slice U0 d.s0.length e0, .slice U1 d.s1.length e1, .slice Ul nl el] 39))
    have XR2 := Lib.hid ((XR1.out.below hb (by omega)).alloc (.cells #[.slice U0 d.s0.length e0, .slice U1 d.s1.length e1, .slice Ul nl el] 39))
    have XO2 := Lib.hid (box_new w2 #[.slice U0 d.s0.length e0, .slice U1 d.s1.length e1, .slice Ul nl el] 39)
    have O2 := Lib.hid (ho.below hn)
    have B2 := Lib.hid ((B1.out.trans (hb.mono (by omega))).trans (hn.mono (by omega)))
    clear ho hb hn RD1 XD1 XR1 B1 x0 x1 x2
    obtain ⟨hn0, hn1, hn2, hn3, hz0, hz1, hth⟩ := HK.out
    obtain ⟨g0, c0', e0', hg0b, hg0⟩ := O2.out.o0.form (by omega)
    obtain ⟨g1, c1', e1', hg1b, hg1⟩ := O2.out.o1.form (by omega)
    injection e0' with e0' e0'' e0'''
    injection e1' with e1' e1'' e1'''
    subst e0' e1'
    clear e0'' e0''' e1'' e1'''
    have hg0l : g0 < w2.heap.size := LO.out.l0 g0 rfl
    have hg1l : g1 < w2.heap.size := LO.out.l1 g1 rfl
    have hg01 : g0 ≠ g1 := fun e => O2.out.p01 g0 rfl (by rw [e]; rfl)
    have HTH := Lib.hid hth
    have HN2 := Lib.hid hn2
    have LR := Lib.hid RD2.out.rl
    have LL := Lib.hid RD2.out.ll
    clear hn0 hn1 hn2 hn3 hz0 hz1 hth LR LL
    go_wp2
    go_loopw [4] (fun i wr => ∃ k : Nat, k ≤ nl ∧ i = .int .i64 (k : Int) ∧ Hid (Box wr w.heap.size [v0, v1, .slice Al nl cl]) ∧ Hid (Box wr w2.heap.size [.slice (some ⟨g0, 0, none⟩) d.s0.length e0, .slice (some ⟨g1, 0, none⟩) d.s1.length e1, .slice Ul nl el]) ∧
        Hid (Box wr (w.heap.size + 1) [.slice none 0 0, .slice none 0 0, .slice none 0 0]) ∧ w2.heap.size + 1 ≤ wr.heap.size ∧ Hid (Below w.heap.size w wr) ∧
        Hid (wr.ownsRow w1.heap.size 9 1 (.slice (some ⟨g0, 0, none⟩) d.s0.length e0) d.s0.length (scs (layAll (d.s0, d.s1) (d.late.take k)).1)) ∧
        Hid (wr.ownsRow w1.heap.size 9 1 (.slice (some ⟨g1, 0, none⟩) d.s1.length e1) d.s1.length (scs (layAll (d.s0, d.s1) (d.late.take k)).2))) (fun i _ => nl - (intOf i).toNat)
    case atStart => exact ⟨0, Nat.zero_le _, rfl, XD2, XO2, XR2, by simp, B2, Lib.hid O2.out.o0, Lib.hid O2.out.o1⟩
    case round =>
      obtain ⟨k, hk, rfl, XD, XO, XR, hsz, B, O0, O1⟩ := hrel
      by_cases hlt : k < nl
      · have hll : k < d.late.length := by rw [HL.out]; exact hlt
        obtain ⟨bl, ol, cl', el', hcl, hml, hcell⟩ := HD.out.rl.form (by have := HL.out; omega)
        injection el' with el1 el2 el3
        subst el1 el3
        rw [HL.out] at hcl
        unfold maxLen at hml
        have hbll : bl < w.heap.size := HD.out.ll bl rfl
        have hrd := late_read (fun j u hu => (B.out.cell hbll).trans (hcell j u hu)) k hll
        have hx := HTH.out _ (List.getElem_mem hll)
        have HP := Lib.hid (show layAll (d.s0, d.s1) (d.late.take (k + 1)) = layM (layAll (d.s0, d.s1) (d.late.take k)) d.late[k].side d.late[k].at_.toNat d.late[k].text from by
          rw [List.take_succ_eq_append_getElem hll, layAll_snoc])
        generalize d.late[k] = x at hrd hx HP
        obtain ⟨xs, xa, x3⟩ := x
        obtain ⟨hx1, hx2, hx3, hx4, hx5⟩ := hx
        simp only at hrd hx1 hx2 hx3 hx4 hx5 HP
        obtain ⟨k2, rfl⟩ : ∃ k2 : Nat, xa = k2 := ⟨xa.toNat, by omega⟩
        obtain ⟨p1, p2, p3⟩ := hrd
        have hk1 : (k : Int) < (nl : Int) := by omega
        have hk2 : (k2 : Int) < (d.s0.length : Int) := hx4
        have hk3 : (k2 : Int) < (d.s1.length : Int) := by have := HN2.out; omega
        clear hcell el2 hll hx5
        have hsd : xs = 0 ∨ xs = 1 := by omega
        rcases hsd with rfl | rfl
        · -- side 0
          obtain ⟨⟨t, _, hct⟩, hft, _, _⟩ := own_at O0.out k2 (by omega)
          have O0' := Lib.hid (own_set O0.out k2 (.string x3))
          have O1' := Lib.hid (own_kept O1.out (w' := wr.setCell ⟨g0, k2, none⟩ (.string x3)) fun b e => Below.heap_setCell _ _ _ _ (by
            have hb : g1 = b := by simpa [Value.ownBlock] using e
            simp; omega))
          have XD' := Lib.hid (XD.out.other (p := ⟨g0, k2, none⟩) (by simp; omega) (.string x3))
          have XO' := Lib.hid (XO.out.other (p := ⟨g0, k2, none⟩) (by simp; omega) (.string x3))
          have XR' := Lib.hid (XR.out.other (p := ⟨g0, k2, none⟩) (by simp; omega) (.string x3))
          have B' := Lib.hid (B.out.setCell (p := ⟨g0, k2, none⟩) (by simp; omega) (.string x3))
          have hsz' : w2.heap.size + 1 ≤ (wr.setCell ⟨g0, k2, none⟩ (.string x3)).heap.size := by simpa using hsz
          obtain ⟨y0, y1, y2⟩ := XD.out.three
          obtain ⟨z0, z1, z2⟩ := XO.out.three
          clear O0 O1 XD XO XR B
          go_wp2_with fail
          go_still_tail 22, (by kernel_rfl)
          change wpList _ _ _ _ _ wr.drew
          go_wp2
          go_roundw
          case rel =>
            refine ⟨k + 1, by omega, by go_num, XD', XO', XR', hsz', Lib.hid B'.out.drew, Lib.hid ?_, Lib.hid ?_⟩
            · rw [HP.out]; have h := O0'.out; rw [scs_set] at h; exact h
            · rw [HP.out]; have h := O1'.out; exact h
          case measure => simp [intOf]; omega
        · -- side 1
          obtain ⟨⟨t, _, hct⟩, hft, _, _⟩ := own_at O1.out k2 (by omega)
          have O1' := Lib.hid (own_set O1.out k2 (.string x3))
          have O0' := Lib.hid (own_kept O0.out (w' := wr.setCell ⟨g1, k2, none⟩ (.string x3)) fun b e => Below.heap_setCell _ _ _ _ (by
            have hb : g0 = b := by simpa [Value.ownBlock] using e
            simp; omega))
          have XD' := Lib.hid (XD.out.other (p := ⟨g1, k2, none⟩) (by simp; omega) (.string x3))
          have XO' := Lib.hid (XO.out.other (p := ⟨g1, k2, none⟩) (by simp; omega) (.string x3))
          have XR' := Lib.hid (XR.out.other (p := ⟨g1, k2, none⟩) (by simp; omega) (.string x3))
          have B' := Lib.hid (B.out.setCell (p := ⟨g1, k2, none⟩) (by simp; omega) (.string x3))
          have hsz' : w2.heap.size + 1 ≤ (wr.setCell ⟨g1, k2, none⟩ (.string x3)).heap.size := by simpa using hsz
          obtain ⟨y0, y1, y2⟩ := XD.out.three
          obtain ⟨z0, z1, z2⟩ := XO.out.three
          clear O0 O1 XD XO XR B
          go_wp2_with fail
          go_still_tail 22, (by kernel_rfl)
          change wpList _ _ _ _ _ wr.drew
          go_wp2
          go_roundw
          case rel =>
            refine ⟨k + 1, by omega, by go_num, XD', XO', XR', hsz', Lib.hid B'.out.drew, Lib.hid ?_, Lib.hid ?_⟩
            · rw [HP.out]; have h := O0'.out; exact h
            · rw [HP.out]; have h := O1'.out; rw [scs_set] at h; exact h
          case measure => simp [intOf]; omega
      · have HE := Lib.hid (show d.late.take k = d.late from List.take_of_length_le (by rw [HL.out]; omega))
        obtain ⟨z0, z1, z2⟩ := XO.out.three
        obtain ⟨r0, r1, r2⟩ := XR.out.three
        have f0 := XR.out.open_ 0
        have f1 := XR.out.open_ 1
        have f2 := XR.out.open_ 2
        have f3 := XO.out.open_ 2
        have hne : ¬ w.heap.size + 1 = w2.heap.size := by omega
        have hne' : ¬ w2.heap.size = w.heap.size + 1 := by omega
        obtain ⟨y0, y1, y2⟩ := XD.out.three
        go_wp2
        have q0 := XR.out.other (p := ⟨w2.heap.size, 2, none⟩) hne (.slice none 0 0)
        have q1 := q0.set 0 (.slice (some ⟨g0, 0, none⟩) d.s0.length e0)
        have q2 := q1.set 1 (.slice (some ⟨g1, 0, none⟩) d.s1.length e1)
        have q3 := q2.set 2 (.slice none 0 0)
        refine bodyPost_ret (v := .agg #[.slice (some ⟨g0, 0, none⟩) d.s0.length e0, .slice (some ⟨g1, 0, none⟩) d.s1.length e1, .slice none 0 0]) (by simp [results, Tryz.results33, go_sem, q1.cell 0 rfl, q2.cell 1 rfl, q3.cell 2 rfl]) rfl ?_
        rw [HF.out]
        refine ⟨_, _, _, rfl, ⟨?_, ?_, ⟨rfl, .inl ⟨rfl, rfl⟩⟩, fun b e e' => ?_, fun _ _ e => by simp [Value.ownBlock] at e, fun _ _ e => by simp [Value.ownBlock] at e⟩, ((((B.out.setCell (by simp; omega) _).setCell (by simp) _).setCell (by simp) _).setCell (by simp) _)⟩
        · have h := O0.out
          rw [HE.out] at h
          show World.ownsRow _ _ _ _ _ (layAll (d.s0, d.s1) d.late).1.length _
          rw [(layAll_len d.late (d.s0, d.s1)).1]
          refine own_base (own_kept h fun b e => ?_) (by omega)
          have hbg : g0 = b := by simpa [Value.ownBlock] using e
          rw [Below.heap_setCell _ _ _ _ (by simp; omega), Below.heap_setCell _ _ _ _ (by simp; omega), Below.heap_setCell _ _ _ _ (by simp; omega), Below.heap_setCell _ _ _ _ (by simp; omega)]
        · have h := O1.out
          rw [HE.out] at h
          show World.ownsRow _ _ _ _ _ (layAll (d.s0, d.s1) d.late).2.length _
          rw [(layAll_len d.late (d.s0, d.s1)).2]
          refine own_base (own_kept h fun b e => ?_) (by omega)
          have hbg : g1 = b := by simpa [Value.ownBlock] using e
          rw [Below.heap_setCell _ _ _ _ (by simp; omega), Below.heap_setCell _ _ _ _ (by simp; omega), Below.heap_setCell _ _ _ _ (by simp; omega), Below.heap_setCell _ _ _ _ (by simp; omega)]
        · have h1 : g0 = b := by simpa [Value.ownBlock] using e
          have h2 : g1 = b := by simpa [Value.ownBlock] using e'
          omega
  · have hok' := Lib.hid (decide_eq_false hok)
    have HF := Lib.hid (show flushM d = noDisk from if_neg hok)
    clear hok
    go_enter Tryz.func33, Tryz.ntmps33
    go_wp2_with fail
    refine (DiskOk_is _ _ _ d _ RD.out HS.out false hok'.out).mono ?_
    rintro e w1 ⟨rfl, hb⟩
    have XR1 := Lib.hid (XR.out.below hb (by omega))
    have B1 := Lib.hid (B0.out.trans (hb.mono (by omega)))
    clear hb RD XD XR B0 hsz
    obtain ⟨x0, x1, x2⟩ := XR1.out.three
    have f0 := XR1.out.open_ 0
    have f1 := XR1.out.open_ 1
    have f2 := XR1.out.open_ 2
    go_wp2
    have q1 := XR1.out.set 0 (.slice none 0 0)
    have q2 := q1.set 1 (.slice none 0 0)
    have q3 := q2.set 2 (.slice none 0 0)
    refine bodyPost_ret (v := .agg #[.slice none 0 0, .slice none 0 0, .slice none 0 0]) (by simp [results, Tryz.results33, go_sem, q1.cell 0 rfl, q2.cell 1 rfl, q3.cell 2 rfl]) rfl ?_
    rw [HF.out]
    exact ⟨_, _, _, rfl, noDisk_own _ _, ((B1.out.setCell (by simp) _).setCell (by simp) _).setCell (by simp) _⟩
end Go.Proofs.YtobjgdnmlibofaaGreat

/-
  impl's put and text: a sector of a draft replaced and read; and what holds of a draft while a call works on it.
-/
set_option maxRecDepth 100000
namespace Go.Proofs.YtobjgdnmlibofaaGreat
open Go.ChangeShapes Go.WideShapes Go.ChangeAt Go.RowKit Go.Proofs.Palim

theorem takes_are (A0 A1 : Option Addr) (vl : Value) (n0 c0 n1 c1 : Nat) (hn : n1 = n0) (side at_ : Int) (s : ByteArray) (w : World) (hz : s.size ≤ maxLen) (r : Bool) (hr : decide (There n0 side at_ s.size) = r) :
    Calls Tryz.prog 110 #[.agg #[.slice A0 n0 c0, .slice A1 n1 c1, vl], .int .i64 side, .int .i64 at_, .string s] w fun e w' => e = .returned (.bool r) ∧ Below w.heap.size w w' := by
  subst hn
  exact takes_is A0 A1 vl n1 c0 c1 side at_ s w hz r hr
theorem has_are (A0 A1 : Option Addr) (n0 c0 n1 c1 : Nat) (hn : n1 = n0) (side at_ : Int) (w : World) (r : Bool) (hr : decide (There n0 side at_ 0) = r) :
    Calls Tryz.prog 92 #[.agg #[.slice A0 n0 c0, .slice A1 n1 c1], .int .i64 side, .int .i64 at_] w fun e w' => e = .returned (.bool r) ∧ Below w.heap.size w w' := by
  subst hn
  refine has_is A0 A1 n1 c0 n1 c1 side at_ w r ((dec_eq ?_).trans hr)
  simp only [decide_eq_true_eq]
  exact ⟨fun h => (has_there n1 side at_ 0).1 ⟨h, by omega⟩, fun h => ((has_there n1 side at_ 0).2 h).1⟩

/-- A sector replaced. -/
def putM (d : DiskM) (side at_ : Int) (t : ByteArray) : DiskM := ⟨(layM (d.s0, d.s1) side at_.toNat t).1, (layM (d.s0, d.s1) side at_.toNat t).2, d.late⟩
theorem putM_len (d : DiskM) (side at_ : Int) (t : ByteArray) : (putM d side at_ t).s0.length = d.s0.length ∧ (putM d side at_ t).s1.length = d.s1.length ∧ (putM d side at_ t).late = d.late := ⟨(layM_len _ _ _ _).1, (layM_len _ _ _ _).2, rfl⟩

theorem own_put {w : World} {base e g n cap : Nat} {ss : List ByteArray} (h : w.ownsRow base e 1 (.slice (some ⟨g, 0, none⟩) n cap) ss.length (scs ss)) (k : Nat) (t : ByteArray) :
    (w.setCell ⟨g, k, none⟩ (.string t)).ownsRow base e 1 (.slice (some ⟨g, 0, none⟩) n cap) (ss.set k t).length (scs (ss.set k t)) := by
  rw [List.length_set]
  have hn : n = ss.length := by
    obtain ⟨_, A, c, hv, _⟩ := sl_of_own h
    injection hv
  subst hn
  have h2 := own_set h k (.string t)
  rwa [scs_set] at h2

set_option maxHeartbeats 400000 in
theorem put_any (v0 v1 vl : Value) (d : DiskM) (base : Nat) (side at_ : Int) (t : ByteArray) (w : World) (ho : DiskOwn w base v0 v1 vl d) (hn0 : d.s0.length ≤ 1048576) (hn1 : d.s1.length ≤ 1048576) (hh : Has d.s0.length d.s1.length side at_) :
    Calls Tryz.prog 76 #[.agg #[v0, v1], .int .i64 side, .int .i64 at_, .string t] w fun e w' => e = .returned (.tuple #[]) ∧ DiskOwn w' base v0 v1 vl (putM d side at_ t) ∧ Turned (DTurns v0 v1 vl) w w' := by
  rcases hh with ⟨rfl, h0, h1⟩ | ⟨rfl, h0, h1⟩
  · obtain ⟨k, rfl⟩ : ∃ k : Nat, at_ = k := ⟨at_.toNat, by omega⟩
    have hk : k < d.s0.length := by omega
    obtain ⟨g, c, rfl, hg, hgl⟩ := ho.o0.form (by omega)
    obtain ⟨_, A1, c1, rfl, _⟩ := sl_of_own ho.o1
    obtain ⟨⟨u, _, hct⟩, hft, _, hlt⟩ := own_at ho.o0 k (by omega)
    have HT := Lib.hid (turned_setCell (Turned.refl (DTurns (.slice (some ⟨g, 0, none⟩) d.s0.length c) (.slice A1 d.s1.length c1) vl) w) (p := ⟨g, k, none⟩) (Or.inl rfl) (.string t))
    have HO := Lib.hid (show DiskOwn (w.setCell ⟨g, k, none⟩ (.string t)) base (.slice (some ⟨g, 0, none⟩) d.s0.length c) (.slice A1 d.s1.length c1) vl (putM d 0 (k : Int) t) from by
      have hp := own_put ho.o0 k t
      refine ⟨?_, ?_, own_kept ho.ol fun b e => Below.heap_setCell _ _ _ _ fun e' => ho.p0l g rfl (by rw [e]; exact congrArg some e'), ho.p01, ho.p0l, ho.p1l⟩
      · exact hp
      · exact own_kept ho.o1 fun b e => Below.heap_setCell _ _ _ _ fun e' => ho.p01 g rfl (by rw [e]; exact congrArg some e'))
    have hn := Lib.hid (Below.new (w := w.setCell ⟨g, k, none⟩ (.string t)) (.cells #[.slice (some ⟨g, 0, none⟩) d.s0.length c, .slice A1 d.s1.length c1] 106))
    clear ho h0 h1
    go_enter Tryz.func76, Tryz.ntmps76
    go_wp2
    exact ⟨rfl, .tuple #[], by simp [results, Tryz.results76, go_sem], rfl, HO.out.below hn.out, HT.out.trans (turned_of_below hn.out)⟩
  · obtain ⟨k, rfl⟩ : ∃ k : Nat, at_ = k := ⟨at_.toNat, by omega⟩
    have hk : k < d.s1.length := by omega
    obtain ⟨g, c, rfl, hg, hgl⟩ := ho.o1.form (by omega)
    obtain ⟨_, A1, c1, rfl, _⟩ := sl_of_own ho.o0
    obtain ⟨⟨u, _, hct⟩, hft, _, hlt⟩ := own_at ho.o1 k (by omega)
    have HT := Lib.hid (turned_setCell (Turned.refl (DTurns (.slice A1 d.s0.length c1) (.slice (some ⟨g, 0, none⟩) d.s1.length c) vl) w) (p := ⟨g, k, none⟩) (Or.inr (Or.inl rfl)) (.string t))
    have HO := Lib.hid (show DiskOwn (w.setCell ⟨g, k, none⟩ (.string t)) base (.slice A1 d.s0.length c1) (.slice (some ⟨g, 0, none⟩) d.s1.length c) vl (putM d 1 (k : Int) t) from by
      have hp := own_put ho.o1 k t
      refine ⟨?_, ?_, own_kept ho.ol fun b e => Below.heap_setCell _ _ _ _ fun e' => ho.p1l g rfl (by rw [e]; exact congrArg some e'), ho.p01, ho.p0l, ho.p1l⟩
      · exact own_kept ho.o0 fun b e => Below.heap_setCell _ _ _ _ fun e' => ho.p01 b e (congrArg some e'.symm)
      · exact hp)
    have hn := Lib.hid (Below.new (w := w.setCell ⟨g, k, none⟩ (.string t)) (.cells #[.slice A1 d.s0.length c1, .slice (some ⟨g, 0, none⟩) d.s1.length c] 106))
    clear ho h0 h1
    go_enter Tryz.func76, Tryz.ntmps76
    go_wp2
    exact ⟨rfl, .tuple #[], by simp [results, Tryz.results76, go_sem], rfl, HO.out.below hn.out, HT.out.trans (turned_of_below hn.out)⟩

set_option maxHeartbeats 400000 in
theorem text_any (v0 v1 vl : Value) (d : DiskM) (side at_ : Int) (w : World) (h : DiskR w v0 v1 vl d) (hn0 : d.s0.length ≤ 1048576) (hn1 : d.s1.length ≤ 1048576) (hh : Has d.s0.length d.s1.length side at_) :
    Calls Tryz.prog 91 #[.agg #[v0, v1], .int .i64 side, .int .i64 at_] w fun e w' => e = .returned (.string ((sideOf d side).getD at_.toNat ⟨#[]⟩)) ∧ Below w.heap.size w w' := by
  rcases hh with ⟨rfl, h0, h1⟩ | ⟨rfl, h0, h1⟩
  · obtain ⟨k, rfl⟩ : ∃ k : Nat, at_ = k := ⟨at_.toNat, by omega⟩
    have hk : k < d.s0.length := by omega
    obtain ⟨b0, o0, c0, rfl, hc0, hm0, hcell0⟩ := h.r0.form (by omega)
    obtain ⟨_, A1, c1, rfl, _⟩ := h.r1
    have g0 := hcell0 k _ (scs_at d.s0 k hk)
    have hbl : b0 < w.heap.size := h.l0 b0 rfl
    have E := Lib.hid (show d.s0[k] = (sideOf d 0).getD ((k : Nat) : Int).toNat ⟨#[]⟩ from by simp [sideOf, hk])
    have hn := Lib.hid (Below.new (w := w) (.cells #[.slice (some ⟨b0, o0, none⟩) d.s0.length c0, .slice A1 d.s1.length c1] 106))
    generalize d.s0[k] = t at g0 E
    unfold maxLen at hm0
    clear h hcell0 h0 h1
    go_enter Tryz.func91, Tryz.ntmps91
    go_wp2
    go_ret
    exact ⟨ret_str E.out, hn.out⟩
  · obtain ⟨k, rfl⟩ : ∃ k : Nat, at_ = k := ⟨at_.toNat, by omega⟩
    have hk : k < d.s1.length := by omega
    obtain ⟨b0, o0, c0, rfl, hc0, hm0, hcell0⟩ := h.r1.form (by omega)
    obtain ⟨_, A1, c1, rfl, _⟩ := h.r0
    have g0 := hcell0 k _ (scs_at d.s1 k hk)
    have hbl : b0 < w.heap.size := h.l1 b0 rfl
    have E := Lib.hid (show d.s1[k] = (sideOf d 1).getD ((k : Nat) : Int).toNat ⟨#[]⟩ from by simp [sideOf, hk])
    have hn := Lib.hid (Below.new (w := w) (.cells #[.slice A1 d.s0.length c1, .slice (some ⟨b0, o0, none⟩) d.s1.length c0] 106))
    generalize d.s1[k] = t at g0 E
    unfold maxLen at hm0
    clear h hcell0 h0 h1
    go_enter Tryz.func91, Tryz.ntmps91
    go_wp2
    go_ret
    exact ⟨ret_str E.out, hn.out⟩

/-- What holds of a draft (in the box x) while a call that began in w works on it. -/
structure Dr (w w' : World) (x : Nat) (u0 u1 ul : Value) (d : DiskM) : Prop where
  xr : Box w' (w.heap.size + 1) [.slice none 0 0, .slice none 0 0, .slice none 0 0]
  xo : Box w' x [u0, u1, ul]
  own : DiskOwn w' (w.heap.size + 2) u0 u1 ul d
  nx : ¬ DTurns u0 u1 ul x
  below : Below w.heap.size w w'
  hx : w.heap.size + 2 ≤ x
theorem Dr.on {w w' w2 : World} {x : Nat} {u0 u1 ul : Value} {d : DiskM} (h : Dr w w' x u0 u1 ul d) (hb : Below w'.heap.size w' w2) : Dr w w2 x u0 u1 ul d :=
  ⟨h.xr.below hb h.xr.lt, h.xo.below hb h.xo.lt, h.own.below hb, h.nx, h.below.trans (hb.mono h.below.size), h.hx⟩
theorem Dr.turned {w w' w2 : World} {x : Nat} {u0 u1 ul : Value} {d d' : DiskM} (h : Dr w w' x u0 u1 ul d) (ht : Turned (DTurns u0 u1 ul) w' w2) (ho : DiskOwn w2 (w.heap.size + 2) u0 u1 ul d') : Dr w w2 x u0 u1 ul d' :=
  ⟨h.xr.turned ht (h.own.past (by omega)), h.xo.turned ht h.nx, ho, h.nx, h.below.trans ((below_past ht h.own (by have := h.xr.lt; omega)).mono (by omega)), h.hx⟩
/-- The late writes replaced by none. -/
theorem Dr.noLate {w w' : World} {x : Nat} {u0 u1 ul : Value} {d : DiskM} (h : Dr w w' x u0 u1 ul d) : Dr w (w'.setCell ⟨x, 2, none⟩ (.slice none 0 0)) x u0 u1 (.slice none 0 0) ⟨d.s0, d.s1, []⟩ :=
  ⟨h.xr.other (by have := h.hx; simp; omega) _, h.xo.set 2 _, ⟨own_kept h.own.o0 fun b e => Below.heap_setCell _ _ _ _ fun e' => h.nx (Or.inl (e.trans (congrArg some e'))), own_kept h.own.o1 fun b e => Below.heap_setCell _ _ _ _ fun e' => h.nx (Or.inr (Or.inl (e.trans (congrArg some e')))), ⟨rfl, .inl ⟨rfl, rfl⟩⟩, h.own.p01, fun _ _ e => by simp [Value.ownBlock] at e, fun _ _ e => by simp [Value.ownBlock] at e⟩,
    fun e => by
      rcases e with e | e | e
      · exact h.nx (Or.inl e)
      · exact h.nx (Or.inr (Or.inl e))
      · simp [Value.ownBlock] at e,
    h.below.setCell (by have := h.hx; simp; omega) _, h.hx⟩
/-- The draft handed back in the result's box. -/
theorem Dr.back {w w' : World} {x : Nat} {u0 u1 ul : Value} {d : DiskM} (h : Dr w w' x u0 u1 ul d) :
    DiskOwn (((w'.setCell ⟨w.heap.size + 1, 0, none⟩ u0).setCell ⟨w.heap.size + 1, 1, none⟩ u1).setCell ⟨w.heap.size + 1, 2, none⟩ ul) w.heap.size u0 u1 ul d ∧ Below w.heap.size w (((w'.setCell ⟨w.heap.size + 1, 0, none⟩ u0).setCell ⟨w.heap.size + 1, 1, none⟩ u1).setCell ⟨w.heap.size + 1, 2, none⟩ ul) :=
  ⟨(h.own.set3 (by simp) (by simp) (by simp)).base (by omega), ((h.below.setCell (by simp) _).setCell (by simp) _).setCell (by simp) _⟩
theorem Dr.cells {w w' : World} {x : Nat} {u0 u1 ul : Value} {d : DiskM} (h : Dr w w' x u0 u1 ul d) :
    (w'.setCell ⟨w.heap.size + 1, 0, none⟩ u0).cell? ⟨w.heap.size + 1, 0, none⟩ = some u0 ∧ ((w'.setCell ⟨w.heap.size + 1, 0, none⟩ u0).setCell ⟨w.heap.size + 1, 1, none⟩ u1).cell? ⟨w.heap.size + 1, 1, none⟩ = some u1 ∧
      (((w'.setCell ⟨w.heap.size + 1, 0, none⟩ u0).setCell ⟨w.heap.size + 1, 1, none⟩ u1).setCell ⟨w.heap.size + 1, 2, none⟩ ul).cell? ⟨w.heap.size + 1, 2, none⟩ = some ul :=
  ⟨(h.xr.set 0 u0).cell 0 rfl, ((h.xr.set 0 u0).set 1 u1).cell 1 rfl, (((h.xr.set 0 u0).set 1 u1).set 2 ul).cell 2 rfl⟩
theorem dr_start {w w1 w2 : World} {u0 u1 ul : Value} {d : DiskM} (t : Nat) (xr : Box w1 (w.heap.size + 1) [.slice none 0 0, .slice none 0 0, .slice none 0 0]) (hb1 : Below w.heap.size w w1) (hs : w.heap.size + 2 ≤ w1.heap.size) (ho : DiskOwn w2 w1.heap.size u0 u1 ul d) (hb : Below w1.heap.size w1 w2) :
    Dr w (w2.alloc (.cells #[u0, u1, ul] t)) w2.heap.size u0 u1 ul d :=
  ⟨(xr.below hb (by omega)).alloc _, box_new _ _ _, (ho.below (Below.new _)).base hs, ho.reads.low.past (Nat.le_refl _), (hb1.trans (hb.mono (by omega))).trans ((Below.new _).mono (by have := hb.size; omega)), by have := hb.size; omega⟩
theorem Dr.agg {w w' : World} {x : Nat} {u0 u1 ul : Value} {d : DiskM} (h : Dr w w' x u0 u1 ul d) : NewDisk w d (.returned (.agg #[u0, u1, ul])) (((w'.setCell ⟨w.heap.size + 1, 0, none⟩ u0).setCell ⟨w.heap.size + 1, 1, none⟩ u1).setCell ⟨w.heap.size + 1, 2, none⟩ ul) :=
  ⟨_, _, _, rfl, h.back.1, h.back.2⟩
end Go.Proofs.YtobjgdnmlibofaaGreat

/-
  Bits of a byte turned: '[]byte(s)', a byte changed, 'string(b)'; and what DiskRot makes of a disk.
-/
set_option maxRecDepth 100000
namespace Go.Proofs.YtobjgdnmlibofaaGreat
open Go.ChangeShapes Go.WideShapes Go.ChangeAt Go.RowKit Go.Proofs.Palim

/-- Block b begins with these bytes, and they may be written. -/
def ByteBlk (w : World) (b : Nat) (l : List UInt8) : Prop := ∀ (j : Nat) (h : j < l.length), w.cell? ⟨b, j, none⟩ = some (.int .u8 (l[j].toNat : Int)) ∧ w.frozen? ⟨b, j, none⟩ = false
theorem ByteBlk.kept {w w' : World} {b : Nat} {l : List UInt8} (h : ByteBlk w b l) (hb : w'.heap[b]? = w.heap[b]?) : ByteBlk w' b l := fun j hj => by
  have h1 := h j hj
  constructor
  · rw [World.cell?_of_block (a := ⟨b, j, none⟩) hb]; exact h1.1
  · have : w'.frozen? ⟨b, j, none⟩ = w.frozen? ⟨b, j, none⟩ := by simp [World.frozen?, hb]
    rw [this]; exact h1.2
theorem ByteBlk.drew {w : World} {b : Nat} {l : List UInt8} (h : ByteBlk w b l) : ByteBlk w.drew b l := h.kept (show w.drew.heap[b]? = w.heap[b]? from rfl)
theorem ByteBlk.set {w : World} {b : Nat} {l : List UInt8} (h : ByteBlk w b l) (k : Nat) (z : UInt8) (hk : k < l.length) : ByteBlk (w.setCell ⟨b, k, none⟩ (.int .u8 (z.toNat : Int))) b (l.set k z) := fun j hj => by
  rw [List.length_set] at hj
  have h1 := h j hj
  have h2 := h k hk
  constructor
  · by_cases e : k = j
    · subst e
      rw [World.cell?_setCell_same' _ _ _ (by rw [h2.1]; rfl)]
      simp
    · rw [List.getElem_set_ne e]
      rw [World.cell?_setCell_other _ _ _ _ (fun h => e (by injection h)), h1.1]
  · rw [World.frozen?_setCell]; exact h1.2

theorem bytes_row (s : ByteArray) (cap j : Nat) (h : j < s.data.toList.length) : (bytesRow s cap)[j]? = some (.int .u8 (s.data.toList[j].toNat : Int)) := by
  have hj : j < s.data.size := by simpa using h
  unfold bytesRow
  rw [Array.getElem?_append_left (by simpa using hj), Array.getElem?_map, Array.getElem?_eq_getElem hj]
  simp

theorem bytes_new (s : ByteArray) (w : World) : ∃ cap w', (convert 9 121 (.string s)).run Tryz.prog w = .ok (.slice (some ⟨w.heap.size, 0, none⟩) s.size cap) w' ∧ Below w.heap.size w w' ∧ w'.heap.size = w.heap.size + 1 ∧ ByteBlk w' w.heap.size s.data.toList := by
  refine ⟨_, _, run_bytes_of_string w 9 121 5 s Tryz.underlying9 Tryz.underlying121 Tryz.underlying5, ?_, by simp, fun j hj => ?_⟩
  · exact (Below.refl _ w).drew.alloc (Nat.le_refl _) _
  · have hh : (w.drew.alloc (.cells (bytesRow s (grownCap w s.size 0 5)) 5 ((bytesRow s (grownCap w s.size 0 5)).size, (bytesRow s (grownCap w s.size 0 5)).size + 1))).heap[w.heap.size]? = some (.cells (bytesRow s (grownCap w s.size 0 5)) 5 ((bytesRow s (grownCap w s.size 0 5)).size, (bytesRow s (grownCap w s.size 0 5)).size + 1)) := by
      show (w.heap.push _)[w.heap.size]? = _
      simp
    have hr := bytes_row s (grownCap w s.size 0 5) j hj
    have hlt := (Array.getElem?_eq_some_iff.1 hr).1
    constructor
    · simp only [World.cell?, hh]; exact hr
    · simp only [World.frozen?, hh]
      simp
      omega
theorem bytes_back (w : World) (b cap : Nat) (l : List UInt8) (h : ByteBlk w b l) : (convert 121 9 (.slice (some ⟨b, 0, none⟩) l.length cap)).run Tryz.prog w = .ok (.string ⟨l.toArray⟩) w :=
  run_convert_bytes_back w 121 9 5 ⟨b, 0, none⟩ cap l Tryz.underlying121 Tryz.underlying5 Tryz.underlying9 fun j hj => by
    have ha : (⟨b, 0, none⟩ : Addr).add j = ⟨b, j, none⟩ := by unfold Addr.add; split <;> simp_all
    rw [ha]; exact (h j hj).1

/-- A byte with bits turned. -/
def rotB (s : ByteArray) (k m : Nat) : ByteArray := ⟨(s.data.toList.set k (UInt8.ofNat ((s.data.toList.getD k 0).toNat ^^^ m))).toArray⟩
theorem rot_byte (c : UInt8) (m : Nat) (hm : m ≤ 255) : bits .xor .u8 (c.toNat : Int) ((m : Nat) : Int) = ((UInt8.ofNat (c.toNat ^^^ m)).toNat : Int) := by
  have hc := c.toNat_lt
  rw [u8_xor_nat _ _ hc (by omega), UInt8.toNat_ofNat_of_lt' (Nat.xor_lt_two_pow (n := 8) (by simpa using hc) (by omega))]
theorem rotB_size (s : ByteArray) (k m : Nat) : (rotB s k m).size = s.size := by
  show (s.data.toList.set k _).toArray.size = s.data.size
  simp
def sect (d : DiskM) (side at_ : Int) : ByteArray := (sideOf d side).getD at_.toNat ⟨#[]⟩
def CanRot (d : DiskM) (side at_ k mask : Int) : Prop := There d.s0.length side at_ 0 ∧ 0 ≤ k ∧ k < (sect d side at_).size ∧ 1 ≤ mask ∧ mask ≤ 255
instance (d : DiskM) (side at_ k mask : Int) : Decidable (CanRot d side at_ k mask) := by unfold CanRot; infer_instance
def rotM (d : DiskM) (side at_ k mask : Int) : DiskM := if DiskOkM d then (if CanRot d side at_ k mask then putM d side at_ (rotB (sect d side at_) k.toNat mask.toNat) else d) else noDisk

theorem DiskOwn.put0 {w : World} {base g c : Nat} {v1 vl : Value} {d : DiskM} (ho : DiskOwn w base (.slice (some ⟨g, 0, none⟩) d.s0.length c) v1 vl d) (k : Nat) (t : ByteArray) :
    DiskOwn (w.setCell ⟨g, k, none⟩ (.string t)) base (.slice (some ⟨g, 0, none⟩) d.s0.length c) v1 vl (putM d 0 (k : Int) t) ∧ Turned (DTurns (.slice (some ⟨g, 0, none⟩) d.s0.length c) v1 vl) w (w.setCell ⟨g, k, none⟩ (.string t)) := by
  have hp := own_put ho.o0 k t
  refine ⟨⟨hp, ?_, own_kept ho.ol fun b e => Below.heap_setCell _ _ _ _ fun e' => ho.p0l g rfl (by rw [e]; exact congrArg some e'), ho.p01, ho.p0l, ho.p1l⟩, turned_setCell (Turned.refl _ w) (p := ⟨g, k, none⟩) (Or.inl rfl) _⟩
  exact own_kept ho.o1 fun b e => Below.heap_setCell _ _ _ _ fun e' => ho.p01 g rfl (by rw [e]; exact congrArg some e')
theorem DiskOwn.put1 {w : World} {base g c : Nat} {v0 vl : Value} {d : DiskM} (ho : DiskOwn w base v0 (.slice (some ⟨g, 0, none⟩) d.s1.length c) vl d) (k : Nat) (t : ByteArray) :
    DiskOwn (w.setCell ⟨g, k, none⟩ (.string t)) base v0 (.slice (some ⟨g, 0, none⟩) d.s1.length c) vl (putM d 1 (k : Int) t) ∧ Turned (DTurns v0 (.slice (some ⟨g, 0, none⟩) d.s1.length c) vl) w (w.setCell ⟨g, k, none⟩ (.string t)) := by
  have hp := own_put ho.o1 k t
  refine ⟨⟨?_, hp, own_kept ho.ol fun b e => Below.heap_setCell _ _ _ _ fun e' => ho.p1l g rfl (by rw [e]; exact congrArg some e'), ho.p01, ho.p0l, ho.p1l⟩, turned_setCell (Turned.refl _ w) (p := ⟨g, k, none⟩) (Or.inr (Or.inl rfl)) _⟩
  exact own_kept ho.o0 fun b e => Below.heap_setCell _ _ _ _ fun e' => ho.p01 b e (congrArg some e'.symm)
end Go.Proofs.YtobjgdnmlibofaaGreat

/-
  spec's DiskRot.
-/
set_option maxRecDepth 100000
namespace Go.Proofs.YtobjgdnmlibofaaGreat
open Go.ChangeShapes Go.WideShapes Go.ChangeAt Go.RowKit Go.Proofs.Palim

set_option maxHeartbeats 2000000 in
theorem DiskRot_any (v0 v1 vl : Value) (d : DiskM) (side at_ k mask : Int) (w : World) (h : DiskR w v0 v1 vl d) (hs : DiskShort d) :
    Calls Tryz.prog 42 #[.agg #[v0, v1, vl], .int .i64 side, .int .i64 at_, .int .i64 k, .int .i64 mask] w (NewDisk w (rotM d side at_ k mask)) := by
  have hnot : ∀ (x : Bool) (w : World), (Op.unary .not (.bool x)).run Tryz.prog w = .ok (.bool (!x)) w := fun _ _ => rfl
  obtain ⟨_, A0, c0, rfl, _⟩ := h.r0
  obtain ⟨_, A1, c1, rfl, _⟩ := h.r1
  obtain ⟨_, Al, cl, rfl, _⟩ := h.rl
  have HD := Lib.hid h
  have HS := Lib.hid hs
  have hnl := hs.nl
  clear h hs
  obtain ⟨hA, hR, hsz, hB⟩ := box2 w #[.slice A0 d.s0.length c0, .slice A1 d.s1.length c1, .slice Al d.late.length cl] #[.slice none 0 0, .slice none 0 0, .slice none 0 0] 39 39
  have RD := Lib.hid (HD.out.below hB)
  have XD := Lib.hid hA
  have XR := Lib.hid hR
  have B0 := Lib.hid hB
  clear hA hR hB
  by_cases hok : DiskOkM d
  · have hok' := Lib.hid (decide_eq_true hok)
    have HK := Lib.hid hok
    go_enter Tryz.func42, Tryz.ntmps42
    go_wp2_with fail
    refine (DiskOk_is _ _ _ d _ RD.out HS.out true hok'.out).mono ?_
    rintro e w1 ⟨rfl, hb⟩
    have RD1 := Lib.hid (RD.out.below hb)
    have XD1 := Lib.hid (XD.out.below hb (by omega))
    have XR1 := Lib.hid (XR.out.below hb (by omega))
    have B1 := Lib.hid (B0.out.trans (hb.mono (by omega)))
    have hs1 : w.heap.size + 2 ≤ w1.heap.size := by have := hb.size; omega
    clear hb RD XD XR B0 hsz hok hok'
    obtain ⟨x0, x1, x2⟩ := XD1.out.three
    go_wp2_with fail
    refine (l2Copy_any _ _ _ d _ RD1.out HS.out).mono ?_
    rintro e w2 ⟨u0, u1, ul, rfl, ho, hb⟩
    obtain ⟨U0, e0, U1, e1, Ul, el, rfl, rfl, rfl⟩ := ho.forms
    have DR := Lib.hid (dr_start 39 XR1.out B1.out hs1 ho hb)
    have hn := Below.new (w := w2) (.cells #[.slice U0 d.s0.length e0, .slice U1 d.s1.length e1, .slice Ul d.late.length el] 39)
    have RD2 := Lib.hid ((RD1.out.below hb).below hn)
    have XD2 := Lib.hid ((XD1.out.below hb (by omega)).alloc (.cells #[.slice U0 d.s0.length e0, .slice U1 d.s1.length e1, .slice Ul d.late.length el] 39))
    clear ho hb hn RD1 XD1 XR1 B1 x0 x1 x2
    have HN := Lib.hid HK.out.2.2.1
    have hzero : (⟨#[]⟩ : ByteArray).size ≤ maxLen := Nat.zero_le _
    obtain ⟨x0, x1, x2⟩ := XD2.out.three
    by_cases hth : There d.s0.length side at_ 0
    · have HTH := Lib.hid hth
      go_wp2_with fail
      refine (l2There_is _ _ _ d.s0.length _ side at_ ⟨#[]⟩ _ hzero true (decide_eq_true hth)).mono ?_
      rintro e w3 ⟨rfl, hb⟩
      have DR1 := Lib.hid (DR.out.on hb)
      clear hb DR XD2 x0 x1 x2 RD2
      obtain ⟨hth1, hth2, hth3, hth4, _⟩ := hth
      obtain ⟨a, rfl⟩ : ∃ a : Nat, at_ = a := ⟨at_.toNat, by omega⟩
      have hsd : side = 0 ∨ side = 1 := by omega
      rcases hsd with rfl | rfl
      · have hal : a < d.s0.length := by omega
        obtain ⟨g, c', hgf, hgb, hgl⟩ := DR1.out.own.o0.form (by omega)
        injection hgf with hg1 hg2 hg3
        subst hg1
        clear hg2 hg3
        obtain ⟨⟨u, hu, hct⟩, hft, _, hglt⟩ := own_at DR1.out.own.o0 a (by omega)
        have HT := Lib.hid (show sect d 0 (a : Int) = d.s0[a] from by unfold sect sideOf; simp [hal])
        obtain rfl : u = .string (sect d 0 (a : Int)) := by rw [scs_at d.s0 a hal] at hu; rw [HT.out]; exact (Option.some.inj hu).symm
        have hz : (sect d 0 (a : Int)).size ≤ 1048576 := by rw [HT.out]; exact HS.out.z0 _ (List.getElem_mem hal)
        have hgx : g ≠ w2.heap.size := fun e => DR1.out.nx (Or.inl (by rw [e]; rfl))
        clear hu HT
        by_cases hcan : 0 ≤ k ∧ k < (sect d 0 (a : Int)).size ∧ 1 ≤ mask ∧ mask ≤ 255
        · have HF := Lib.hid (show rotM d 0 (a : Int) k mask = putM d 0 (a : Int) (rotB (sect d 0 (a : Int)) k.toNat mask.toNat) from by unfold rotM; rw [if_pos HK.out, if_pos ⟨HTH.out, hcan⟩])
          obtain ⟨hk0, hk1, hm0, hm1⟩ := hcan
          obtain ⟨kk, rfl⟩ : ∃ kk : Nat, k = kk := ⟨k.toNat, by omega⟩
          obtain ⟨mm, rfl⟩ : ∃ mm : Nat, mask = mm := ⟨mask.toNat, by omega⟩
          obtain ⟨t, HTT⟩ : ∃ t, Hid (sect d 0 (a : Int) = t) := ⟨_, Lib.hid rfl⟩
          rw [HTT.out] at hz hk1 hct HF
          obtain ⟨cap, w4, hcv, hb4, hs4, BB⟩ := bytes_new t w3
          have DR4 := Lib.hid (DR1.out.on hb4)
          have hkl : kk < t.data.toList.length := by simpa using (by omega : kk < t.size)
          obtain ⟨hbc, hbf⟩ := BB kk hkl
          have BBs := BB.set kk (UInt8.ofNat (t.data.toList[kk].toNat ^^^ mm)) hkl
          have hxo := rot_byte t.data.toList[kk] mm (by omega)
          have hwr : IntKind.u8.wrap (mm : Int) = (mm : Int) := IntWalk.u8_in _ ⟨by omega, by omega⟩
          have hct4 := (hb4.cell (p := ⟨g, a, none⟩) hglt).trans hct
          obtain ⟨z0, z1, z2⟩ := DR4.out.xo.three
          have HE := Lib.hid (show (⟨(t.data.toList.set kk (UInt8.ofNat (t.data.toList[kk].toNat ^^^ mm))).toArray⟩ : ByteArray) = rotB t kk mm from by
            unfold rotB
            rw [show t.data.toList.getD kk 0 = t.data.toList[kk] from by simp [List.getD, List.getElem?_eq_getElem hkl]])
          have hlen : (t.data.toList.set kk (UInt8.ofNat (t.data.toList[kk].toNat ^^^ mm))).length = t.size := by
            show _ = t.data.size
            simp
          have hbk := bytes_back _ w3.heap.size cap _ BBs
          have hbd := bytes_back _ w3.heap.size cap _ BBs.drew
          rw [hlen, HE.out] at hbk hbd
          generalize t.data.toList[kk] = c at hbc hxo hbk hbd BBs HE
          generalize UInt8.ofNat (c.toNat ^^^ mm) = z at hxo hbk hbd BBs HE
          have DR5 := Lib.hid (DR1.out.on (hb4.setCell (p := ⟨w3.heap.size, kk, none⟩) (Nat.le_refl _) (.int .u8 (z.toNat : Int))))
          clear BBs BB HE hlen hb4 z0 z1 z2
          have hk2 : (kk : Int) < (t.size : Int) := by omega
          obtain ⟨z0, z1, z2⟩ := DR1.out.xo.three
          obtain ⟨y0, y1, y2⟩ := DR5.out.xo.three
          obtain ⟨⟨u5, _, hct5⟩, hft5, _, _⟩ := own_at DR5.out.own.o0 a (by omega)
          go_wp2_with fail
          generalize hw5 : w4.setCell ⟨w3.heap.size, kk, none⟩ (.int .u8 (z.toNat : Int)) = w5 at DR5 hbk hbd y0 y1 y2 hct5 hft5 ⊢
          clear hw5 hct hft hct4 hxo hbc hbf z0 z1 z2 hcv
          go_still_tail 8, (by kernel_rfl)
          change wpList _ _ _ _ _ w5.drew
          have DR6 := Lib.hid (DR5.out.on (Below.refl _ w5).drew)
          have hput := DR6.out.own.put0 a (rotB t kk mm)
          have DRX := Lib.hid (DR6.out.turned hput.2 hput.1)
          obtain ⟨r0, r1, r2⟩ := DR5.out.xr.three
          have q0 := Lib.hid (DR5.out.xr.other (p := ⟨g, a, none⟩) (by simp; omega) (.string (rotB t kk mm)))
          have f0 := DR5.out.xr.open_ 0
          have f1 := DR5.out.xr.open_ 1
          have f2 := DR5.out.xr.open_ 2
          have hn1 : ¬ g = w.heap.size + 1 := by omega
          have hn2 : ¬ w.heap.size + 1 = g := by omega
          have hn3 : ¬ w2.heap.size = g := fun e => hgx e.symm
          clear hput DR5
          go_wp2
          have q1 := q0.out.set 0 (.slice (some ⟨g, 0, none⟩) d.s0.length e0)
          have q2 := q1.set 1 (.slice U1 d.s1.length e1)
          have q3 := q2.set 2 (.slice Ul d.late.length el)
          refine bodyPost_ret (v := .agg #[.slice (some ⟨g, 0, none⟩) d.s0.length e0, .slice U1 d.s1.length e1, .slice Ul d.late.length el]) (by simp [results, Tryz.results42, go_sem, q1.cell 0 rfl, q2.cell 1 rfl, q3.cell 2 rfl]) rfl ?_
          rw [HF.out]
          exact DRX.out.agg
        · have HF := Lib.hid (show rotM d 0 (a : Int) k mask = d from by unfold rotM; rw [if_pos HK.out, if_neg (fun h => hcan h.2)])
          have hcs : k < 0 ∨ (0 ≤ k ∧ (sect d 0 (a : Int)).size ≤ k) ∨ (0 ≤ k ∧ k < (sect d 0 (a : Int)).size ∧ mask < 1) ∨ (0 ≤ k ∧ k < (sect d 0 (a : Int)).size ∧ 1 ≤ mask ∧ 255 < mask) := by omega
          clear hcan
          have DRX := DR1
          generalize sect d 0 (a : Int) = t at hct hz hcs
          obtain ⟨z0, z1, z2⟩ := DRX.out.xo.three
          obtain ⟨r0, r1, r2⟩ := DRX.out.xr.three
          have f0 := DRX.out.xr.open_ 0
          have f1 := DRX.out.xr.open_ 1
          have f2 := DRX.out.xr.open_ 2
          rcases hcs with k1 | ⟨k1, k2⟩ | ⟨k1, k2, k3⟩ | ⟨k1, k2, k3, k4⟩
          all_goals
            go_wp2
            refine bodyPost_ret (v := .agg #[.slice (some ⟨g, 0, none⟩) d.s0.length e0, .slice U1 d.s1.length e1, .slice Ul d.late.length el]) (by simp [results, Tryz.results42, go_sem, DRX.out.cells.1, DRX.out.cells.2.1, DRX.out.cells.2.2]) rfl ?_
            rw [HF.out]
            exact DRX.out.agg
      · have hal : a < d.s1.length := by have := HN.out; omega
        obtain ⟨g, c', hgf, hgb, hgl⟩ := DR1.out.own.o1.form (by omega)
        injection hgf with hg1 hg2 hg3
        subst hg1
        clear hg2 hg3
        obtain ⟨⟨u, hu, hct⟩, hft, _, hglt⟩ := own_at DR1.out.own.o1 a (by omega)
        have HT := Lib.hid (show sect d 1 (a : Int) = d.s1[a] from by unfold sect sideOf; simp [hal])
        obtain rfl : u = .string (sect d 1 (a : Int)) := by rw [scs_at d.s1 a hal] at hu; rw [HT.out]; exact (Option.some.inj hu).symm
        have hz : (sect d 1 (a : Int)).size ≤ 1048576 := by rw [HT.out]; exact HS.out.z1 _ (List.getElem_mem hal)
        have hgx : g ≠ w2.heap.size := fun e => DR1.out.nx (Or.inr (Or.inl (by rw [e]; rfl)))
        clear hu HT
        by_cases hcan : 0 ≤ k ∧ k < (sect d 1 (a : Int)).size ∧ 1 ≤ mask ∧ mask ≤ 255
        · have HF := Lib.hid (show rotM d 1 (a : Int) k mask = putM d 1 (a : Int) (rotB (sect d 1 (a : Int)) k.toNat mask.toNat) from by unfold rotM; rw [if_pos HK.out, if_pos ⟨HTH.out, hcan⟩])
          obtain ⟨hk0, hk1, hm0, hm1⟩ := hcan
          obtain ⟨kk, rfl⟩ : ∃ kk : Nat, k = kk := ⟨k.toNat, by omega⟩
          obtain ⟨mm, rfl⟩ : ∃ mm : Nat, mask = mm := ⟨mask.toNat, by omega⟩
          obtain ⟨t, HTT⟩ : ∃ t, Hid (sect d 1 (a : Int) = t) := ⟨_, Lib.hid rfl⟩
          rw [HTT.out] at hz hk1 hct HF
          obtain ⟨cap, w4, hcv, hb4, hs4, BB⟩ := bytes_new t w3
          have DR4 := Lib.hid (DR1.out.on hb4)
          have hkl : kk < t.data.toList.length := by simpa using (by omega : kk < t.size)
          obtain ⟨hbc, hbf⟩ := BB kk hkl
          have BBs := BB.set kk (UInt8.ofNat (t.data.toList[kk].toNat ^^^ mm)) hkl
          have hxo := rot_byte t.data.toList[kk] mm (by omega)
          have hwr : IntKind.u8.wrap (mm : Int) = (mm : Int) := IntWalk.u8_in _ ⟨by omega, by omega⟩
          have hct4 := (hb4.cell (p := ⟨g, a, none⟩) hglt).trans hct
          obtain ⟨z0, z1, z2⟩ := DR4.out.xo.three
          have HE := Lib.hid (show (⟨(t.data.toList.set kk (UInt8.ofNat (t.data.toList[kk].toNat ^^^ mm))).toArray⟩ : ByteArray) = rotB t kk mm from by
            unfold rotB
            rw [show t.data.toList.getD kk 0 = t.data.toList[kk] from by simp [List.getD, List.getElem?_eq_getElem hkl]])
          have hlen : (t.data.toList.set kk (UInt8.ofNat (t.data.toList[kk].toNat ^^^ mm))).length = t.size := by
            show _ = t.data.size
            simp
          have hbk := bytes_back _ w3.heap.size cap _ BBs
          have hbd := bytes_back _ w3.heap.size cap _ BBs.drew
          rw [hlen, HE.out] at hbk hbd
          generalize t.data.toList[kk] = c at hbc hxo hbk hbd BBs HE
          generalize UInt8.ofNat (c.toNat ^^^ mm) = z at hxo hbk hbd BBs HE
          have DR5 := Lib.hid (DR1.out.on (hb4.setCell (p := ⟨w3.heap.size, kk, none⟩) (Nat.le_refl _) (.int .u8 (z.toNat : Int))))
          clear BBs BB HE hlen hb4 z0 z1 z2
          have hk2 : (kk : Int) < (t.size : Int) := by omega
          obtain ⟨z0, z1, z2⟩ := DR1.out.xo.three
          obtain ⟨y0, y1, y2⟩ := DR5.out.xo.three
          obtain ⟨⟨u5, _, hct5⟩, hft5, _, _⟩ := own_at DR5.out.own.o1 a (by omega)
          go_wp2_with fail
          generalize hw5 : w4.setCell ⟨w3.heap.size, kk, none⟩ (.int .u8 (z.toNat : Int)) = w5 at DR5 hbk hbd y0 y1 y2 hct5 hft5 ⊢
          clear hw5 hct hft hct4 hxo hbc hbf z0 z1 z2 hcv
          go_still_tail 8, (by kernel_rfl)
          change wpList _ _ _ _ _ w5.drew
          have DR6 := Lib.hid (DR5.out.on (Below.refl _ w5).drew)
          have hput := DR6.out.own.put1 a (rotB t kk mm)
          have DRX := Lib.hid (DR6.out.turned hput.2 hput.1)
          obtain ⟨r0, r1, r2⟩ := DR5.out.xr.three
          have q0 := Lib.hid (DR5.out.xr.other (p := ⟨g, a, none⟩) (by simp; omega) (.string (rotB t kk mm)))
          have f0 := DR5.out.xr.open_ 0
          have f1 := DR5.out.xr.open_ 1
          have f2 := DR5.out.xr.open_ 2
          have hn1 : ¬ g = w.heap.size + 1 := by omega
          have hn2 : ¬ w.heap.size + 1 = g := by omega
          have hn3 : ¬ w2.heap.size = g := fun e => hgx e.symm
          clear hput DR5
          go_wp2
          have q1 := q0.out.set 0 (.slice U0 d.s0.length e0)
          have q2 := q1.set 1 (.slice (some ⟨g, 0, none⟩) d.s1.length e1)
          have q3 := q2.set 2 (.slice Ul d.late.length el)
          refine bodyPost_ret (v := .agg #[.slice U0 d.s0.length e0, .slice (some ⟨g, 0, none⟩) d.s1.length e1, .slice Ul d.late.length el]) (by simp [results, Tryz.results42, go_sem, q1.cell 0 rfl, q2.cell 1 rfl, q3.cell 2 rfl]) rfl ?_
          rw [HF.out]
          exact DRX.out.agg
        · have HF := Lib.hid (show rotM d 1 (a : Int) k mask = d from by unfold rotM; rw [if_pos HK.out, if_neg (fun h => hcan h.2)])
          have hcs : k < 0 ∨ (0 ≤ k ∧ (sect d 1 (a : Int)).size ≤ k) ∨ (0 ≤ k ∧ k < (sect d 1 (a : Int)).size ∧ mask < 1) ∨ (0 ≤ k ∧ k < (sect d 1 (a : Int)).size ∧ 1 ≤ mask ∧ 255 < mask) := by omega
          clear hcan
          have DRX := DR1
          generalize sect d 1 (a : Int) = t at hct hz hcs
          obtain ⟨z0, z1, z2⟩ := DRX.out.xo.three
          obtain ⟨r0, r1, r2⟩ := DRX.out.xr.three
          have f0 := DRX.out.xr.open_ 0
          have f1 := DRX.out.xr.open_ 1
          have f2 := DRX.out.xr.open_ 2
          rcases hcs with k1 | ⟨k1, k2⟩ | ⟨k1, k2, k3⟩ | ⟨k1, k2, k3, k4⟩
          all_goals
            go_wp2
            refine bodyPost_ret (v := .agg #[.slice U0 d.s0.length e0, .slice (some ⟨g, 0, none⟩) d.s1.length e1, .slice Ul d.late.length el]) (by simp [results, Tryz.results42, go_sem, DRX.out.cells.1, DRX.out.cells.2.1, DRX.out.cells.2.2]) rfl ?_
            rw [HF.out]
            exact DRX.out.agg
    · have HF := Lib.hid (show rotM d side at_ k mask = d from by unfold rotM; rw [if_pos HK.out, if_neg (fun h => hth h.1)])
      go_wp2_with fail
      refine (l2There_is _ _ _ d.s0.length _ side at_ ⟨#[]⟩ _ hzero false (decide_eq_false hth)).mono ?_
      rintro e w3 ⟨rfl, hb⟩
      have DRX := Lib.hid (DR.out.on hb)
      clear hb DR XD2 x0 x1 x2 RD2
      obtain ⟨z0, z1, z2⟩ := DRX.out.xo.three
      obtain ⟨r0, r1, r2⟩ := DRX.out.xr.three
      have f0 := DRX.out.xr.open_ 0
      have f1 := DRX.out.xr.open_ 1
      have f2 := DRX.out.xr.open_ 2
      go_wp2
      refine bodyPost_ret (v := .agg #[.slice U0 d.s0.length e0, .slice U1 d.s1.length e1, .slice Ul d.late.length el]) (by simp [results, Tryz.results42, go_sem, DRX.out.cells.1, DRX.out.cells.2.1, DRX.out.cells.2.2]) rfl ?_
      rw [HF.out]
      exact DRX.out.agg
  · have hok' := Lib.hid (decide_eq_false hok)
    have HF := Lib.hid (show rotM d side at_ k mask = noDisk from if_neg hok)
    clear hok
    go_enter Tryz.func42, Tryz.ntmps42
    go_wp2_with fail
    refine (DiskOk_is _ _ _ d _ RD.out HS.out false hok'.out).mono ?_
    rintro e w1 ⟨rfl, hb⟩
    have XR1 := Lib.hid (XR.out.below hb (by omega))
    have B1 := Lib.hid (B0.out.trans (hb.mono (by omega)))
    clear hb RD XD XR B0 hsz
    obtain ⟨x0, x1, x2⟩ := XR1.out.three
    have f0 := XR1.out.open_ 0
    have f1 := XR1.out.open_ 1
    have f2 := XR1.out.open_ 2
    go_wp2
    have q1 := XR1.out.set 0 (.slice none 0 0)
    have q2 := q1.set 1 (.slice none 0 0)
    have q3 := q2.set 2 (.slice none 0 0)
    refine bodyPost_ret (v := .agg #[.slice none 0 0, .slice none 0 0, .slice none 0 0]) (by simp [results, Tryz.results42, go_sem, q1.cell 0 rfl, q2.cell 1 rfl, q3.cell 2 rfl]) rfl ?_
    rw [HF.out]
    exact ⟨_, _, _, rfl, noDisk_own _ _, ((B1.out.setCell (by simp) _).setCell (by simp) _).setCell (by simp) _⟩
end Go.Proofs.YtobjgdnmlibofaaGreat

/-
  Short disks stay short: a flush, a turned byte.
-/
set_option maxRecDepth 100000
namespace Go.Proofs.YtobjgdnmlibofaaGreat
open Go.ChangeShapes Go.WideShapes Go.ChangeAt Go.RowKit Go.Proofs.Palim

theorem set_all {P : ByteArray → Prop} {ss : List ByteArray} (h : ∀ s ∈ ss, P s) {t : ByteArray} (ht : P t) (k : Nat) : ∀ s ∈ ss.set k t, P s := fun s hs => by
  rcases List.mem_or_eq_of_mem_set hs with h' | h'
  · exact h s h'
  · exact h' ▸ ht
theorem short_put {d : DiskM} (h : DiskShort d) (side at_ : Int) {t : ByteArray} (ht : t.size ≤ 1048576) : DiskShort (putM d side at_ t) := by
  have hl := putM_len d side at_ t
  refine ⟨by rw [hl.1]; exact h.n0, by rw [hl.2.1]; exact h.n1, h.nl, ?_, ?_, h.zl⟩
  · unfold putM layM
    split
    · exact set_all h.z0 ht _
    · exact h.z0
  · unfold putM layM
    split
    · exact h.z1
    · exact set_all h.z1 ht _
theorem sect_short {d : DiskM} (h : DiskShort d) (side at_ : Int) : (sect d side at_).size ≤ 1048576 := by
  have hm : (sect d side at_) = ⟨#[]⟩ ∨ (sect d side at_) ∈ d.s0 ∨ (sect d side at_) ∈ d.s1 := by
    unfold sect sideOf
    split
    · rcases Nat.lt_or_ge at_.toNat d.s0.length with h | h
      · right; left; simp [List.getD, List.getElem?_eq_getElem h]
      · left; simp [List.getD, List.getElem?_eq_none h]
    · rcases Nat.lt_or_ge at_.toNat d.s1.length with h | h
      · right; right; simp [List.getD, List.getElem?_eq_getElem h]
      · left; simp [List.getD, List.getElem?_eq_none h]
  rcases hm with h' | h' | h'
  · rw [h']; exact Nat.zero_le _
  · exact h.z0 _ h'
  · exact h.z1 _ h'
theorem short_rot {d : DiskM} {side at_ k mask : Int} (h : DiskShort d) : DiskShort (rotM d side at_ k mask) := by
  unfold rotM
  split
  · split
    · exact short_put h _ _ (by rw [rotB_size]; exact sect_short h _ _)
    · exact h
  · exact short_no

theorem layAll_all {P : ByteArray → Prop} (ls : List LateM) (hl : ∀ l ∈ ls, P l.text) : ∀ p : List ByteArray × List ByteArray, (∀ s ∈ p.1, P s) → (∀ s ∈ p.2, P s) → (∀ s ∈ (layAll p ls).1, P s) ∧ ∀ s ∈ (layAll p ls).2, P s := by
  induction ls with
  | nil => intro p h1 h2; exact ⟨h1, h2⟩
  | cons l ls ih =>
    intro p h1 h2
    have hx := hl l (by simp)
    refine ih (fun l hl' => hl l (by simp [hl'])) (layM p l.side l.at_.toNat l.text) ?_ ?_
    · intro s hs
      unfold layM at hs
      split at hs
      · rcases List.mem_or_eq_of_mem_set hs with h | rfl
        · exact h1 s h
        · exact hx
      · exact h1 s hs
    · intro s hs
      unfold layM at hs
      split at hs
      · exact h2 s hs
      · rcases List.mem_or_eq_of_mem_set hs with h | rfl
        · exact h2 s h
        · exact hx
theorem short_flush {d : DiskM} (h : DiskShort d) : DiskShort (flushM d) := by
  unfold flushM
  split
  · have hl := layAll_len d.late (d.s0, d.s1)
    have ha := layAll_all (P := fun s => s.size ≤ 1048576) d.late h.zl (d.s0, d.s1) h.z0 h.z1
    exact ⟨by rw [hl.1]; exact h.n0, by rw [hl.2]; exact h.n1, Nat.zero_le _, ha.1, ha.2, by simp⟩
  · exact short_no

end Go.Proofs.YtobjgdnmlibofaaGreat

/-
  impl's DiskFlush.
-/
set_option maxRecDepth 100000
namespace Go.Proofs.YtobjgdnmlibofaaGreat
open Go.ChangeShapes Go.WideShapes Go.ChangeAt Go.RowKit Go.Proofs.Palim

set_option maxHeartbeats 1000000 in
theorem ImplDiskFlush_any (d : DiskM) (v0 v1 vl : Value) (w : World) (h : DiskR w v0 v1 vl d) (hs : DiskShort d) :
    Calls Tryz.prog 35 #[.agg #[v0, v1, vl]] w (NewDisk w (flushM d)) := by
  have hnot : ∀ (x : Bool) (w : World), (Op.unary .not (.bool x)).run Tryz.prog w = .ok (.bool (!x)) w := fun _ _ => rfl
  obtain ⟨_, A0, c0, rfl, _⟩ := h.r0
  obtain ⟨_, A1, c1, rfl, _⟩ := h.r1
  obtain ⟨_, Al, cl, rfl, _⟩ := h.rl
  have HD := Lib.hid h
  have HS := Lib.hid hs
  have hnl := hs.nl
  clear h hs
  obtain ⟨hA, hR, hsz, hB⟩ := box2 w #[.slice A0 d.s0.length c0, .slice A1 d.s1.length c1, .slice Al d.late.length cl] #[.slice none 0 0, .slice none 0 0, .slice none 0 0] 39 39
  have RD := Lib.hid (HD.out.below hB)
  have XD := Lib.hid hA
  have XR := Lib.hid hR
  have B0 := Lib.hid hB
  clear hA hR hB
  by_cases hok : DiskOkM d
  · have hok' := Lib.hid (decide_eq_true hok)
    have HK := Lib.hid hok
    go_enter Tryz.func35, Tryz.ntmps35
    go_wp2_with fail
    refine (ImOk_is _ _ _ d _ RD.out HS.out true hok'.out).mono ?_
    rintro e w1 ⟨rfl, hb⟩
    have RD1 := Lib.hid (RD.out.below hb)
    have XD1 := Lib.hid (XD.out.below hb (by omega))
    have XR1 := Lib.hid (XR.out.below hb (by omega))
    have B1 := Lib.hid (B0.out.trans (hb.mono (by omega)))
    have hs1 : w.heap.size + 2 ≤ w1.heap.size := by have := hb.size; omega
    clear hb RD XD XR B0 hsz hok hok'
    obtain ⟨x0, x1, x2⟩ := XD1.out.three
    go_wp2_with fail
    refine (diskCopy_any _ _ _ d _ RD1.out HS.out).mono ?_
    rintro e w2 ⟨u0, u1, ul, rfl, ho, hb⟩
    obtain ⟨U0, e0, U1, e1, Ul, el, rfl, rfl, rfl⟩ := ho.forms
    have DR := Lib.hid (dr_start 108 XR1.out B1.out hs1 ho hb)
    have hn := Below.new (w := w2) (.cells #[.slice U0 d.s0.length e0, .slice U1 d.s1.length e1, .slice Ul d.late.length el] 108)
    have RD2 := Lib.hid ((RD1.out.below hb).below hn)
    have XD2 := Lib.hid ((XD1.out.below hb (by omega)).alloc (.cells #[.slice U0 d.s0.length e0, .slice U1 d.s1.length e1, .slice Ul d.late.length el] 108))
    clear ho hb hn RD1 XD1 XR1 B1 x0 x1 x2
    have HF := Lib.hid (show flushM d = _ from if_pos HK.out)
    obtain ⟨nl, HL⟩ : ∃ n, Hid (d.late.length = n) := ⟨_, Lib.hid rfl⟩
    rw [HL.out] at DR hnl ⊢
    have LEN := Lib.hid (fun ls => layAll_len ls (d.s0, d.s1))
    have hn0 := HS.out.n0
    have hn1 := HS.out.n1
    obtain ⟨x0, x1, x2⟩ := DR.out.xo.three
    go_wp2
    go_loopw [15] (fun i wr => ∃ k : Nat, k ≤ nl ∧ i = .int .i64 (k : Int) ∧ Hid (Dr w wr w2.heap.size (.slice U0 d.s0.length e0) (.slice U1 d.s1.length e1) (.slice Ul nl el) ⟨(layAll (d.s0, d.s1) (d.late.take k)).1, (layAll (d.s0, d.s1) (d.late.take k)).2, d.late⟩)) (fun i _ => nl - (intOf i).toNat)
    case atStart => exact ⟨0, Nat.zero_le _, rfl, DR⟩
    case round =>
      clear DR x0 x1 x2 RD2 XD2
      obtain ⟨k, hk, rfl, DR⟩ := hrel
      by_cases hlt : k < nl
      · have hll : k < d.late.length := by rw [HL.out]; exact hlt
        have hsl := sl_of_own DR.out.own.ol
        simp only at hsl
        obtain ⟨bl, ol, cl', el', hcl, hml, hcell⟩ := hsl.form (by omega)
        injection el' with el1 el2 el3
        subst el1 el3
        rw [HL.out] at hcl
        unfold maxLen at hml
        have hbll : bl < wr.heap.size := (DR.out.own.ol.lt bl rfl).2
        have hrd := late_read hcell k hll
        have hx := HK.out.2.2.2.2.2.2 _ (List.getElem_mem hll)
        have HP := Lib.hid (show layAll (d.s0, d.s1) (d.late.take (k + 1)) = layM (layAll (d.s0, d.s1) (d.late.take k)) d.late[k].side d.late[k].at_.toNat d.late[k].text from by
          rw [List.take_succ_eq_append_getElem hll, layAll_snoc])
        generalize d.late[k] = x at hrd hx HP
        obtain ⟨p1, p2, p3⟩ := hrd
        have HX := Lib.hid (show Has (layAll (d.s0, d.s1) (d.late.take k)).1.length (layAll (d.s0, d.s1) (d.late.take k)).2.length x.side x.at_ from by
          rw [(LEN.out _).1, (LEN.out _).2]
          show Has d.s0.length d.s1.length _ _
          rw [HK.out.2.2.1]
          exact ((has_there _ _ _ _).2 hx).1)
        have H0 := Lib.hid (show (layAll (d.s0, d.s1) (d.late.take k)).1.length ≤ 1048576 from by rw [(LEN.out _).1]; exact hn0)
        have H1 := Lib.hid (show (layAll (d.s0, d.s1) (d.late.take k)).2.length ≤ 1048576 from by rw [(LEN.out _).2]; exact hn1)
        have DR1 := Lib.hid (DR.out.on (Below.new (.cells #[.int .i64 x.side, .int .i64 x.at_, .string x.text] 81)))
        have hk1 : (k : Int) < (nl : Int) := by omega
        clear hcell el2 hll hx hsl DR
        obtain ⟨x0, x1, x2⟩ := DR1.out.xo.three
        go_wp2_with fail
        refine (put_any _ _ _ ⟨(layAll (d.s0, d.s1) (d.late.take k)).1, (layAll (d.s0, d.s1) (d.late.take k)).2, d.late⟩ _ x.side x.at_ x.text _ DR1.out.own H0.out H1.out HX.out).mono ?_
        rintro e w3 ⟨rfl, ho, ht⟩
        have DR2 := Lib.hid (DR1.out.turned ht ho)
        clear ho ht DR1 x0 x1 x2 p1 p2 p3
        go_wp2
        go_roundw
        case rel =>
          refine ⟨k + 1, by omega, by go_num, Lib.hid ?_⟩
          rw [HP.out]
          exact DR2.out
        case measure => simp [intOf]; omega
      · have HE := Lib.hid (show d.late.take k = d.late from List.take_of_length_le (by rw [HL.out]; omega))
        rw [HE.out] at DR
        have DR1 := Lib.hid DR.out.noLate
        obtain ⟨z0, z1, z2⟩ := DR.out.xo.three
        have f3 := DR.out.xo.open_ 2
        obtain ⟨z0, z1, z2⟩ := DR1.out.xo.three
        go_wp2_with fail
        refine (disk_any _ _ _ _ _ _ _ _ _ _).mono ?_
        rintro e w4 ⟨rfl, hb⟩
        have DR2 := Lib.hid (DR1.out.on hb)
        clear DR DR1 hb z0 z1 z2 f3
        obtain ⟨r0, r1, r2⟩ := DR2.out.xr.three
        have f0 := DR2.out.xr.open_ 0
        have f1 := DR2.out.xr.open_ 1
        have f2 := DR2.out.xr.open_ 2
        go_wp2
        refine bodyPost_ret (v := .agg #[.slice U0 d.s0.length e0, .slice U1 d.s1.length e1, .slice none 0 0]) (by simp [results, Tryz.results35, go_sem, DR2.out.cells.1, DR2.out.cells.2.1, DR2.out.cells.2.2]) rfl (by rw [HF.out]; exact DR2.out.agg)
  · have hok' := Lib.hid (decide_eq_false hok)
    have HF := Lib.hid (show flushM d = noDisk from if_neg hok)
    clear hok
    go_enter Tryz.func35, Tryz.ntmps35
    go_wp2_with fail
    refine (ImOk_is _ _ _ d _ RD.out HS.out false hok'.out).mono ?_
    rintro e w1 ⟨rfl, hb⟩
    have XR1 := Lib.hid (XR.out.below hb (by omega))
    have B1 := Lib.hid (B0.out.trans (hb.mono (by omega)))
    clear hb RD XD XR B0 hsz
    obtain ⟨x0, x1, x2⟩ := XR1.out.three
    have f0 := XR1.out.open_ 0
    have f1 := XR1.out.open_ 1
    have f2 := XR1.out.open_ 2
    go_wp2
    have q1 := XR1.out.set 0 (.slice none 0 0)
    have q2 := q1.set 1 (.slice none 0 0)
    have q3 := q2.set 2 (.slice none 0 0)
    refine bodyPost_ret (v := .agg #[.slice none 0 0, .slice none 0 0, .slice none 0 0]) (by simp [results, Tryz.results35, go_sem, q1.cell 0 rfl, q2.cell 1 rfl, q3.cell 2 rfl]) rfl ?_
    rw [HF.out]
    exact ⟨_, _, _, rfl, noDisk_own _ _, ((B1.out.setCell (by simp) _).setCell (by simp) _).setCell (by simp) _⟩
end Go.Proofs.YtobjgdnmlibofaaGreat
