/-
  Texts joined into one: the draws of disks, and what they want.
-/
import Derived.Test.YtfcfgdpelbljnaaGreatDoorDisks
import Derived.Test.YtfcfgdpelbljnaaGreatDoorBase
import Derived.Test.YtfcfgdpelbljnaaGreatDoorRows
import Derived.RangeFuncNested
import Derived.RangeFuncLeaves
import Derived.Shelf.Abstract
import Derived.WalkKit
import Derived.OwnWalkIn
import Derived.TacticsInMore
import Derived.LoopNIn
import Derived.LoopIn
import Derived.Test.YtfcfgdpelbljnaaGreatDoorTorn
import Derived.Test.YtfcfgdpelbljnaaGreatDoorDraws

/-
  impl's DiskWrite.
-/
set_option maxRecDepth 100000
namespace Go.Proofs.YtfcfgdpelbljnaaGreatDoor
open Go.ChangeShapes Go.WideShapes Go.ChangeAt Go.RowKit Go.Proofs.Palim

/-- The late writes of a draft grown by one. -/
theorem Dr.more {w w' w2 : World} {x g cap nl el : Nat} {u0 u1 : Value} {Ul : Option Addr} {d : DiskM} {l : LateM} (h : Dr w w' x u0 u1 (.slice Ul nl el) d) (hnl : d.late.length = nl) (hw : w2.ownsRow (w.heap.size + 2) 63 3 (.slice (some ⟨g, 0, none⟩) (nl + 1) cap) (nl + 1) (lcs d.late ++ lc l))
    (hg : (w'.alloc (.cells (lc l).toArray 63)).grownBy w2 (Value.slice Ul nl el).ownBlock) (hat : (Value.slice Ul nl el).ownBlock = some g ∨ g = w'.heap.size + 1) :
    Dr w (w2.setCell ⟨x, 2, none⟩ (.slice (some ⟨g, 0, none⟩) (nl + 1) cap)) x u0 u1 (.slice (some ⟨g, 0, none⟩) (nl + 1) cap) ⟨d.s0, d.s1, d.late ++ [l]⟩ := by
  have hx := h.hx
  have hxl := h.xo.lt
  have hkeep : ∀ k, k < w'.heap.size → (Value.slice Ul nl el).ownBlock ≠ some k → w2.heap[k]? = w'.heap[k]? := fun k hk hne =>
    (hg.block k (by simp; omega) (fun e => hne e.symm)).trans (Below.heap_alloc w' _ k hk)
  have hgx : g ≠ x := by
    rcases hat with e | e
    · intro e'; exact h.nx (Or.inr (Or.inr (by rw [e, e'])))
    · omega
  have o0 := own_kept h.own.o0 (w' := w2) fun b e => hkeep b (h.own.o0.lt b e).2 (fun e' => h.own.p0l b e e')
  have o1 := own_kept h.own.o1 (w' := w2) fun b e => hkeep b (h.own.o1.lt b e).2 (fun e' => h.own.p1l b e e')
  have p0 : Apart u0 (.slice (some ⟨g, 0, none⟩) (nl + 1) cap) := fun b e e' => by
    have hbg : g = b := by simpa [Value.ownBlock] using e'
    subst hbg
    rcases hat with h' | h'
    · exact h.own.p0l _ e h'
    · have := (h.own.o0.lt _ e).2; omega
  have p1 : Apart u1 (.slice (some ⟨g, 0, none⟩) (nl + 1) cap) := fun b e e' => by
    have hbg : g = b := by simpa [Value.ownBlock] using e'
    subst hbg
    rcases hat with h' | h'
    · exact h.own.p1l _ e h'
    · have := (h.own.o1.lt _ e).2; omega
  refine ⟨(h.xr.kept (hkeep _ h.xr.lt (fun e => by have := (h.own.ol.lt _ e).1; omega))).other (by simp; omega) _,
    (h.xo.kept (hkeep _ h.xo.lt (fun e => h.nx (Or.inr (Or.inr e))))).set 2 _,
    ⟨own_kept o0 fun b e => Below.heap_setCell _ _ _ _ fun e' => h.nx (Or.inl (e.trans (congrArg some e'))), own_kept o1 fun b e => Below.heap_setCell _ _ _ _ fun e' => h.nx (Or.inr (Or.inl (e.trans (congrArg some e')))), ?_, h.own.p01, p0, p1⟩, ?_,
    (((h.below.alloc h.below.size _).grown hg (by have := h.below.size; simp; omega) (fun k e => by have := (h.own.ol.lt k e).1; omega)).setCell (by simp; omega) _), hx⟩
  · have hl : (d.late ++ [l]).length = nl + 1 := by simp [hnl]
    show World.ownsRow _ _ _ _ _ (d.late ++ [l]).length (lcs (d.late ++ [l]))
    rw [hl, lcs_snoc]
    exact own_kept hw fun b e => Below.heap_setCell _ _ _ _ fun e' => hgx ((by simpa [Value.ownBlock] using e : g = b).trans e')
  · rintro (e | e | e)
    · exact h.nx (Or.inl e)
    · exact h.nx (Or.inr (Or.inl e))
    · exact hgx (by simpa [Value.ownBlock] using e)

set_option maxHeartbeats 1000000 in
theorem ImplDiskWrite_any (d : DiskM) (side at_ : Int) (text : ByteArray) (v0 v1 vl : Value) (w : World) (hz : text.size ≤ maxLen) (h : DiskR w v0 v1 vl d) (hs : DiskShort d) :
    Calls Tryz.prog 8 #[.agg #[v0, v1, vl], .int .i64 side, .int .i64 at_, .string text] w (NewDisk2 w (writeM d side at_ text) (decide (CanWrite d side at_ text))) := by
  have hnot : ∀ (x : Bool) (w : World), (Op.unary .not (.bool x)).run Tryz.prog w = .ok (.bool (!x)) w := fun _ _ => rfl
  obtain ⟨_, A0, c0, rfl, _⟩ := h.r0
  obtain ⟨_, A1, c1, rfl, _⟩ := h.r1
  obtain ⟨_, Al, cl, rfl, _⟩ := h.rl
  have HD := Lib.hid h
  have HS := Lib.hid hs
  have hnl := hs.nl
  clear h hs
  obtain ⟨j0, hj, hy0, hy1, hy2⟩ := info_parts infoLate
  obtain ⟨hA, hR, hsz, hB⟩ := box2 w #[.slice A0 d.s0.length c0, .slice A1 d.s1.length c1, .slice Al d.late.length cl] #[.slice none 0 0, .slice none 0 0, .slice none 0 0] 32 32
  have RD := Lib.hid (HD.out.below hB)
  have XD := Lib.hid hA
  have XR := Lib.hid hR
  have B0 := Lib.hid hB
  clear hA hR hB
  by_cases hok : DiskOkM d
  · have hok' := Lib.hid (decide_eq_true hok)
    have HK := Lib.hid hok
    go_enter Tryz.func8, Tryz.ntmps8
    go_wp2_with fail
    refine (ImOk_is _ _ _ d _ RD.out HS.out true hok'.out).mono ?_
    rintro e w1 ⟨rfl, hb⟩
    have RD1 := Lib.hid (RD.out.below hb)
    have XD1 := Lib.hid (XD.out.below hb (by omega))
    have XR1 := Lib.hid (XR.out.below hb (by omega))
    have B1 := Lib.hid (B0.out.trans (hb.mono (by omega)))
    have hs1 : w.heap.size + 2 ≤ w1.heap.size := by have := hb.size; omega
    clear hb RD XD XR B0 hsz hok hok'
    obtain ⟨x0, x1, x2⟩ := XD1.out.three
    go_wp2_with fail
    refine (diskCopy_any _ _ _ d _ RD1.out HS.out).mono ?_
    rintro e w2 ⟨u0, u1, ul, rfl, ho, hb⟩
    obtain ⟨U0, e0, U1, e1, Ul, el, rfl, rfl, rfl⟩ := ho.forms
    have DR := Lib.hid (dr_start 58 XR1.out B1.out hs1 ho hb)
    have hn := Below.new (w := w2) (.cells #[.slice U0 d.s0.length e0, .slice U1 d.s1.length e1, .slice Ul d.late.length el] 58)
    have RD2 := Lib.hid ((RD1.out.below hb).below hn)
    have XD2 := Lib.hid ((XD1.out.below hb (by omega)).alloc (.cells #[.slice U0 d.s0.length e0, .slice U1 d.s1.length e1, .slice Ul d.late.length el] 58))
    clear ho hb hn RD1 XD1 XR1 B1 x0 x1 x2
    obtain ⟨nl, HL⟩ : ∃ n, Hid (d.late.length = n) := ⟨_, Lib.hid rfl⟩
    rw [HL.out] at DR XD2 hnl ⊢
    have HN := Lib.hid HK.out.2.2.1
    obtain ⟨x0, x1, x2⟩ := XD2.out.three
    by_cases hth : There d.s0.length side at_ text.size
    · have hth' := Lib.hid (decide_eq_true hth)
      go_wp2_with fail
      refine (takes_are _ _ _ d.s0.length _ d.s1.length _ HN.out side at_ text _ hz true hth'.out).mono ?_
      rintro e w3 ⟨rfl, hb⟩
      have DR1 := Lib.hid (DR.out.on hb)
      have XD3 := Lib.hid (XD2.out.below hb XD2.out.lt)
      clear hb DR XD2 x0 x1 x2 RD2
      obtain ⟨x0, x1, x2⟩ := XD3.out.three
      obtain ⟨z0, z1, z2⟩ := DR1.out.xo.three
      by_cases hn : nl = 600
      · subst hn
        have HF := Lib.hid (show writeM d side at_ text = d from by unfold writeM; rw [if_neg (fun h => h.2.2 HL.out), if_pos HK.out])
        have HF2 := Lib.hid (decide_eq_false (show ¬ CanWrite d side at_ text from fun h => h.2.2 HL.out))
        have DRX := DR1
        go_wp2_with fail
        refine (disk_any _ _ _ _ _ _ _ _ _ _).mono ?_
        rintro e w5 ⟨rfl, hb⟩
        have DR2 := Lib.hid (DRX.out.on hb)
        clear hb DRX z0 z1 z2
        obtain ⟨r0, r1, r2⟩ := DR2.out.xr.three
        have f0 := DR2.out.xr.open_ 0
        have f1 := DR2.out.xr.open_ 1
        have f2 := DR2.out.xr.open_ 2
        go_wp2
        refine bodyPost_ret (v := .tuple #[.agg #[.slice U0 d.s0.length e0, .slice U1 d.s1.length e1, .slice Ul 600 el], .bool false]) (by simp [results, Tryz.results8, go_sem, DR2.out.cells.1, DR2.out.cells.2.1, DR2.out.cells.2.2]) rfl ?_
        rw [HF.out, HF2.out]
        exact ⟨_, _, _, rfl, DR2.out.back.1, DR2.out.back.2⟩
      · have HF := Lib.hid (show writeM d side at_ text = ⟨d.s0, d.s1, d.late ++ [⟨side, at_, text⟩]⟩ from by unfold writeM; rw [if_pos ⟨HK.out, hth, fun h => hn (HL.out.symm.trans h)⟩])
        have HF2 := Lib.hid (decide_eq_true (show CanWrite d side at_ text from ⟨HK.out, hth, fun h => hn (HL.out.symm.trans h)⟩))
        clear hth
        have hn2 : ¬ ((nl : Int) = 600) := by omega
        have hown := DR1.out.own.ol
        rw [HL.out] at hown
        have hlb := DR1.out.xr.lt
        go_wp2_with (first
          | (at_builtin; refine wpList_append_lies _ rfl _ _ 30 rfl (w.heap.size + 2) 63 j0 _ 3 32 Tryz.underlying30 hj hy0 hy1 hy2 rfl (by omega) _ nl (lcs d.late) rfl (hown.alloc _) ⟨w3.heap.size, 0, none⟩ 1 1 (lc ⟨side, at_, text⟩) rfl rfl ?c1 (by simp [lc]; exact ⟨rfl, rfl, rfl⟩) (by omega) (by unfold maxLen; omega) (by omega) (by simp; omega) (w3.heap.size + 1) (by simp) ?_))
        case c1 => exact World.news_of_block (cs := #[.int .i64 side, .int .i64 at_, .string text]) (t := 63) (fr := (0, 0)) (heap_alloc_new w3 _)
        intro g cap w4 hown4 hgrow hat hglt
        have DRX := Lib.hid (DR1.out.more HL.out hown4 hgrow hat)
        have XO := Lib.hid (DR1.out.xo.kept (w' := w4) (by
          rw [hgrow.block _ (by have := DR1.out.xo.lt; simp; omega) (fun e => DR1.out.nx (Or.inr (Or.inr e.symm)))]
          exact Below.heap_alloc _ _ _ DR1.out.xo.lt))
        clear hown hown4 hgrow hat hglt DR1 x0 x1 x2 XD3 z0 z1 z2
        obtain ⟨y0, y1, y2⟩ := XO.out.three
        have f3 := XO.out.open_ 2
        obtain ⟨z0, z1, z2⟩ := DRX.out.xo.three
        go_wp2_with fail
        refine (disk_any _ _ _ _ _ _ _ _ _ _).mono ?_
        rintro e w5 ⟨rfl, hb⟩
        have DR2 := Lib.hid (DRX.out.on hb)
        clear hb DRX z0 z1 z2
        obtain ⟨r0, r1, r2⟩ := DR2.out.xr.three
        have f0 := DR2.out.xr.open_ 0
        have f1 := DR2.out.xr.open_ 1
        have f2 := DR2.out.xr.open_ 2
        go_wp2
        refine bodyPost_ret (v := .tuple #[.agg #[.slice U0 d.s0.length e0, .slice U1 d.s1.length e1, .slice (some ⟨g, 0, none⟩) (nl + 1) cap], .bool true]) (by simp [results, Tryz.results8, go_sem, DR2.out.cells.1, DR2.out.cells.2.1, DR2.out.cells.2.2]) rfl ?_
        rw [HF.out, HF2.out]
        exact ⟨_, _, _, rfl, DR2.out.back.1, DR2.out.back.2⟩
    · have hth' := Lib.hid (decide_eq_false hth)
      have HF := Lib.hid (show writeM d side at_ text = d from by unfold writeM; rw [if_neg (fun h => hth h.2.1), if_pos HK.out])
      have HF2 := Lib.hid (decide_eq_false (show ¬ CanWrite d side at_ text from fun h => hth h.2.1))
      go_wp2_with fail
      refine (takes_are _ _ _ d.s0.length _ d.s1.length _ HN.out side at_ text _ hz false hth'.out).mono ?_
      · rintro e w3 ⟨rfl, hb⟩
        have DRX := Lib.hid (DR.out.on hb)
        clear hb DR XD2 x0 x1 x2 RD2
        obtain ⟨z0, z1, z2⟩ := DRX.out.xo.three
        go_wp2_with fail
        refine (disk_any _ _ _ _ _ _ _ _ _ _).mono ?_
        rintro e w5 ⟨rfl, hb⟩
        have DR2 := Lib.hid (DRX.out.on hb)
        clear hb DRX z0 z1 z2
        obtain ⟨r0, r1, r2⟩ := DR2.out.xr.three
        have f0 := DR2.out.xr.open_ 0
        have f1 := DR2.out.xr.open_ 1
        have f2 := DR2.out.xr.open_ 2
        go_wp2
        refine bodyPost_ret (v := .tuple #[.agg #[.slice U0 d.s0.length e0, .slice U1 d.s1.length e1, .slice Ul nl el], .bool false]) (by simp [results, Tryz.results8, go_sem, DR2.out.cells.1, DR2.out.cells.2.1, DR2.out.cells.2.2]) rfl ?_
        rw [HF.out, HF2.out]
        exact ⟨_, _, _, rfl, DR2.out.back.1, DR2.out.back.2⟩
  · have hok' := Lib.hid (decide_eq_false hok)
    have HF := Lib.hid (show writeM d side at_ text = noDisk from by unfold writeM; rw [if_neg (fun h => hok h.1), if_neg hok])
    have HF2 := Lib.hid (decide_eq_false (show ¬ CanWrite d side at_ text from fun h => hok h.1))
    clear hok
    go_enter Tryz.func8, Tryz.ntmps8
    go_wp2_with fail
    refine (ImOk_is _ _ _ d _ RD.out HS.out false hok'.out).mono ?_
    rintro e w1 ⟨rfl, hb⟩
    have XR1 := Lib.hid (XR.out.below hb (by omega))
    have B1 := Lib.hid (B0.out.trans (hb.mono (by omega)))
    clear hb RD XD XR B0 hsz
    obtain ⟨x0, x1, x2⟩ := XR1.out.three
    have f0 := XR1.out.open_ 0
    have f1 := XR1.out.open_ 1
    have f2 := XR1.out.open_ 2
    go_wp2
    have q1 := XR1.out.set 0 (.slice none 0 0)
    have q2 := q1.set 1 (.slice none 0 0)
    have q3 := q2.set 2 (.slice none 0 0)
    refine bodyPost_ret (v := .tuple #[.agg #[.slice none 0 0, .slice none 0 0, .slice none 0 0], .bool false]) (by simp [results, Tryz.results8, go_sem, q1.cell 0 rfl, q2.cell 1 rfl, q3.cell 2 rfl]) rfl ?_
    rw [HF.out, HF2.out]
    exact ⟨_, _, _, rfl, noDisk_own _ _, ((B1.out.setCell (by simp) _).setCell (by simp) _).setCell (by simp) _⟩
end Go.Proofs.YtfcfgdpelbljnaaGreatDoor

/-
  What a round of a loop over an iterator keeps.
-/
set_option maxRecDepth 100000
namespace Go.Proofs.YtfcfgdpelbljnaaGreatDoor
open Go.ChangeShapes Go.WideShapes Go.ChangeAt Go.RowKit Go.Proofs.Palim Go.Shelf

/-- What a round that goes on keeps: the blocks below N that are not S's. -/
structure KeepB (N : Nat) (S : Nat → Prop) (W W' : World) : Prop where
  size : W.heap.size ≤ W'.heap.size
  block : ∀ b, b < N → ¬ S b → W'.heap[b]? = W.heap[b]?
theorem KeepB.refl (N : Nat) (S : Nat → Prop) (W : World) : KeepB N S W W := ⟨Nat.le_refl _, fun _ _ _ => rfl⟩
theorem KeepB.trans {N : Nat} {S : Nat → Prop} {A B C : World} (h : KeepB N S A B) (k : KeepB N S B C) : KeepB N S A C := ⟨Nat.le_trans h.size k.size, fun b hb hn => (k.block b hb hn).trans (h.block b hb hn)⟩
theorem keepB_b {N : Nat} {S : Nat → Prop} {w : World} (hn : N ≤ w.heap.size) (W : World) (l : Nat) (o o' : Obj) (hl : w.heap.size ≤ l) (h : W.heap[l]? = some o) (_ : o.isCells = false) (_ : o.isWalk = false) : KeepB N S W (W.putObj l o') :=
  ⟨by simp, fun b hb _ => World.putObj_heap_other (by omega)⟩
theorem KeepB.of_below {N : Nat} {S : Nat → Prop} {W W' : World} (h : Below W.heap.size W W') (hN : N ≤ W.heap.size) : KeepB N S W W' := ⟨h.size, fun b hb _ => h.block b (by omega)⟩
theorem KeepB.of_turned {N : Nat} {S : Nat → Prop} {W W' : World} (h : Turned S W W') (hN : N ≤ W.heap.size) : KeepB N S W W' := ⟨h.size, fun b hb hn => h.block b (by omega) hn⟩
theorem leaves_two {fn : Func} {tmps : Array Value} {W : World} {R : Ending → World → Prop} {D : Nat} {n : Nat} {v : Value} (hK : W.heap[D]? = some (.deferred (some []))) (hr : (results fn tmps).run Tryz.prog (W.putObj D (.deferred none)) = .ok v (W.putObj D (.deferred none))) (h : R (.returned v) (W.putObj D (.deferred none))) :
    bodyPostM Fence.wide n Tryz.prog fn R .ret { tmps := tmps, defers := [{ target := .collected D, args := #[] }] } W :=
  ⟨by simp, .inl ⟨_, _, rfl, run_takeDeferred hK, ⟨_, hr, h⟩⟩⟩
end Go.Proofs.YtfcfgdpelbljnaaGreatDoor

/-
  slices.Backward at late writes: the iterator hands out each write with its place, from the last to the first, to whatever loop body keeps the writes' memory.
-/
set_option maxRecDepth 100000
namespace Go.Proofs.YtfcfgdpelbljnaaGreatDoor
open Go.ChangeShapes Go.WideShapes Go.ChangeAt Go.RowKit Go.Proofs.Palim Go.Shelf

attribute [local go_sem] Oper.semAt_some

/-- A late write as a value, and with its place as an iterator hands it out. -/
def lval (x : LateM) : Value := .agg #[.int .i64 x.side, .int .i64 x.at_, .string x.text]
def encBack (x : Int × LateM) : Array Value := #[.int .i64 x.1, .agg #[.int .i64 x.2.side, .int .i64 x.2.at_, .string x.2.text]]
/-- The writes with their places, from the last to the first. -/
def backs : Nat → List LateM → List (Int × LateM)
  | _, [] => []
  | k, x :: xs => backs (k + 1) xs ++ [((k : Int), x)]
theorem backs_append (a b : List LateM) : ∀ k, backs k (a ++ b) = backs (k + a.length) b ++ backs k a := by
  induction a with
  | nil => intro k; simp [backs]
  | cons x a ih => intro k; simp only [List.cons_append, backs, ih, List.append_assoc, List.length_cons]; rw [show k + 1 + a.length = k + (a.length + 1) by omega]
theorem backs_len (l : List LateM) : ∀ k, (backs k l).length = l.length := by
  induction l with
  | nil => intro k; rfl
  | cons x l ih => intro k; simp [backs, ih]
theorem backs_snd (l : List LateM) : ∀ k, (backs k l).map Prod.snd = l.reverse := by
  induction l with
  | nil => intro k; rfl
  | cons x l ih => intro k; simp [backs, ih]
theorem backs_pre (ls : List LateM) (m : Nat) : backs m (ls.drop m) <+: backs 0 ls := by
  rcases Nat.lt_or_ge ls.length m with h | h
  · rw [List.drop_of_length_le (by omega)]; exact List.nil_prefix
  · have h2 := backs_append (ls.take m) (ls.drop m) 0
    rw [List.take_append_drop, List.length_take, Nat.min_eq_left h, Nat.zero_add] at h2
    rw [h2]; exact List.prefix_append _ _
theorem backs_step (ls : List LateM) (m : Nat) (h : m < ls.length) : backs m (ls.drop m) = backs (m + 1) (ls.drop (m + 1)) ++ [((m : Int), ls[m])] := by
  rw [List.drop_eq_getElem_cons h]; rfl

end Go.Proofs.YtfcfgdpelbljnaaGreatDoor

/-
  impl's DiskRead: a range over slices.Backward.
-/
set_option maxRecDepth 100000
namespace Go.Proofs.YtfcfgdpelbljnaaGreatDoor
open Go.ChangeShapes Go.WideShapes Go.ChangeAt Go.RowKit Go.Proofs.Palim Go.Shelf

attribute [local go_sem] Oper.semAt_some

theorem box_own {β : Type} (b : Nat) (vs : List Value) : Own (fun (_ : β) W => Box W b vs) := fun _ X Y row hs hg hr =>
  hs.kept (hg.block _ hs.lt (fun e => by
    obtain ⟨o, ho, hc⟩ := hr b e.symm
    obtain ⟨c, t, hb, _⟩ := hs
    rw [hb] at ho
    cases ho
    cases hc))

/-- The variables of DiskRead, in their boxes. -/
structure RS (w W : World) (v0 v1 vl : Value) (side at_ : Int) (txt : ByteArray) (ok : Bool) : Prop where
  xd : Box W w.heap.size [v0, v1, vl]
  xs : Box W (w.heap.size + 1) [.int .i64 side]
  xa : Box W (w.heap.size + 1 + 1) [.int .i64 at_]
  xt : Box W (w.heap.size + 1 + 1 + 1) [.string txt]
  xb : Box W (w.heap.size + 1 + 1 + 1 + 1) [.bool ok]
  x2 : Box W (w.heap.size + 1 + 1 + 1 + 1 + 1) [v0, v1]
  below : Below w.heap.size w W
theorem RS.on {w W W' : World} {v0 v1 vl : Value} {side at_ : Int} {txt : ByteArray} {ok : Bool} (h : RS w W v0 v1 vl side at_ txt ok) (hb : Below W.heap.size W W') : RS w W' v0 v1 vl side at_ txt ok :=
  ⟨h.xd.below hb h.xd.lt, h.xs.below hb h.xs.lt, h.xa.below hb h.xa.lt, h.xt.below hb h.xt.lt, h.xb.below hb h.xb.lt, h.x2.below hb h.x2.lt, h.below.trans (hb.mono h.below.size)⟩
theorem RS.own {β : Type} {B : Nat} {w : World} (v0 v1 vl : Value) (side at_ : Int) (txt : ByteArray) (ok : Bool) (hB : w.heap.size ≤ B) : OwnFrom B (fun (_ : β) W => RS w W v0 v1 vl side at_ txt ok) := fun s X Y row h hg hr =>
  ⟨box_own _ _ s X Y row h.xd hg (fun r e => (hr r e).2), box_own _ _ s X Y row h.xs hg (fun r e => (hr r e).2), box_own _ _ s X Y row h.xa hg (fun r e => (hr r e).2), box_own _ _ s X Y row h.xt hg (fun r e => (hr r e).2), box_own _ _ s X Y row h.xb hg (fun r e => (hr r e).2), box_own _ _ s X Y row h.x2 hg (fun r e => (hr r e).2),
    ownFrom_below (β := β) (Nat.le_refl _) hB s X Y row h.below hg hr⟩
theorem rs_start (w : World) (v0 v1 vl : Value) (side at_ : Int) (t0 t1 t2 t3 t4 t5 : Nat) :
    RS w ((((((w.alloc (.cells #[v0, v1, vl] t0)).alloc (.cells #[.int .i64 side] t1)).alloc (.cells #[.int .i64 at_] t2)).alloc (.cells #[.string ⟨#[]⟩] t3)).alloc (.cells #[.bool false] t4)).alloc (.cells #[v0, v1] t5)) v0 v1 vl side at_ ⟨#[]⟩ false := by
  have n1 := box_new (w.alloc (.cells #[v0, v1, vl] t0)) #[.int .i64 side] t1
  have n2 := box_new ((w.alloc (.cells #[v0, v1, vl] t0)).alloc (.cells #[.int .i64 side] t1)) #[.int .i64 at_] t2
  have n3 := box_new (((w.alloc (.cells #[v0, v1, vl] t0)).alloc (.cells #[.int .i64 side] t1)).alloc (.cells #[.int .i64 at_] t2)) #[.string ⟨#[]⟩] t3
  have n4 := box_new ((((w.alloc (.cells #[v0, v1, vl] t0)).alloc (.cells #[.int .i64 side] t1)).alloc (.cells #[.int .i64 at_] t2)).alloc (.cells #[.string ⟨#[]⟩] t3)) #[.bool false] t4
  have n5 := box_new (((((w.alloc (.cells #[v0, v1, vl] t0)).alloc (.cells #[.int .i64 side] t1)).alloc (.cells #[.int .i64 at_] t2)).alloc (.cells #[.string ⟨#[]⟩] t3)).alloc (.cells #[.bool false] t4)) #[v0, v1] t5
  simp only [World.size_alloc] at n1 n2 n3 n4 n5
  exact ⟨((((((box_new w _ t0).alloc _).alloc _).alloc _).alloc _).alloc _), ((((n1.alloc _).alloc _).alloc _).alloc _), (((n2.alloc _).alloc _).alloc _), ((n3.alloc _).alloc _), n4.alloc _, n5,
    ((((((Below.refl _ w).alloc (Nat.le_refl _) _).alloc (by simp) _).alloc (by simp; omega) _).alloc (by simp; omega) _).alloc (by simp; omega) _).alloc (by simp; omega) _⟩

theorem RS.put {w W : World} {v0 v1 vl : Value} {side at_ : Int} {txt : ByteArray} {ok : Bool} (h : RS w W v0 v1 vl side at_ txt ok) (t : ByteArray) (b : Bool) :
    RS w ((W.setCell ⟨w.heap.size + 1 + 1 + 1, 0, none⟩ (.string t)).setCell ⟨w.heap.size + 1 + 1 + 1 + 1, 0, none⟩ (.bool b)) v0 v1 vl side at_ t b :=
  ⟨(h.xd.other (by show _ ≠ _; simp only; omega) _).other (by show _ ≠ _; simp only; omega) _, (h.xs.other (by show _ ≠ _; simp only; omega) _).other (by show _ ≠ _; simp only; omega) _, (h.xa.other (by show _ ≠ _; simp only; omega) _).other (by show _ ≠ _; simp only; omega) _, (h.xt.set 0 _).other (by show _ ≠ _; simp only; omega) _, (h.xb.other (by show _ ≠ _; simp only; omega) _).set 0 _, (h.x2.other (by show _ ≠ _; simp only; omega) _).other (by show _ ≠ _; simp only; omega) _,
    (h.below.setCell (by show _ ≤ _; simp only; omega) _).setCell (by show _ ≤ _; simp only; omega) _⟩

/-- This write is of that sector. -/
def Hit (side at_ : Int) (x : Int × LateM) : Prop := x.2.side = side ∧ x.2.at_ = at_
theorem lastOf_miss {side at_ : Int} {ls : List LateM} (h : ∀ y ∈ ls, ¬ (y.side = side ∧ y.at_ = at_)) : lastOf side at_ ls = none := by
  induction ls with
  | nil => rfl
  | cons y ls ih =>
    simp only [lastOf]
    rw [ih (fun z hz => h z (by simp [hz]))]
    simp [h y (by simp)]
theorem mem_snd {pre : List (Int × LateM)} {side at_ : Int} (h : ∀ x ∈ pre, ¬ Hit side at_ x) : ∀ y ∈ (pre.map Prod.snd).reverse, ¬ (y.side = side ∧ y.at_ = at_) := fun y hy => by
  rw [List.mem_reverse] at hy
  obtain ⟨x, hx, rfl⟩ := List.mem_map.1 hy
  exact h x hx
theorem lastOf_all {side at_ : Int} {ls : List LateM} (h : ∀ x ∈ backs 0 ls, ¬ Hit side at_ x) : lastOf side at_ ls = none := by
  have h2 := mem_snd h
  rw [backs_snd, List.reverse_reverse] at h2
  exact lastOf_miss h2
theorem lastOf_hit {side at_ : Int} {ls : List LateM} {pre : List (Int × LateM)} {x : Int × LateM} (hp : pre ++ [x] <+: backs 0 ls) (hn : ∀ y ∈ pre, ¬ Hit side at_ y) (hx : Hit side at_ x) : lastOf side at_ ls = some x.2.text := by
  obtain ⟨t, ht⟩ := hp
  have h2 := congrArg (List.map Prod.snd) ht
  rw [backs_snd] at h2
  have h3 : ls = (t.map Prod.snd).reverse ++ [x.2] ++ (pre.map Prod.snd).reverse := by
    rw [← List.reverse_reverse ls, ← h2]
    simp
  rw [h3, lastOf_append, lastOf_miss (mem_snd hn), lastOf_snoc, if_pos (show x.2.side = side ∧ x.2.at_ = at_ from hx)]
  rfl

end Go.Proofs.YtfcfgdpelbljnaaGreatDoor

/-
  impl's diskFates: the iterator hands out each late write with what becomes of it, in their order, to whatever loop body keeps their memory.
-/
set_option maxRecDepth 100000
namespace Go.Proofs.YtfcfgdpelbljnaaGreatDoor
open Go.ChangeShapes Go.WideShapes Go.ChangeAt Go.RowKit Go.Proofs.Palim Go.Shelf

attribute [local go_sem] Oper.semAt_some

def encFate (x : LateM × Int) : Array Value := #[.agg #[.int .i64 x.1.side, .int .i64 x.1.at_, .string x.1.text], .int .i64 x.2]

set_option maxHeartbeats 2000000 in
theorem fates1_in (n : Nat) (hn : 1 ≤ n) (l Bs Bf N : Nat) (S : Nat → Prop) (v vf : Value) (ls : List LateM) (fs : List Int) {Pr : LateM × Int → Prop} (zs : List { x : LateM × Int // Pr x }) (hz : zs.map (·.1) = pairs ls fs) (J Jx : List { x : LateM × Int // Pr x } → World → Prop)
    (hJa : ∀ s W o, J s W → J s (W.alloc o))
    (hY : ∀ pre x W, J pre W → pre.length < ls.length → YieldAt Fence.wide (n - 1) Tryz.prog l (encFate x.1) W fun e W' =>
      (e = .returned (.bool true) ∧ J (pre ++ [x]) W' ∧ KeepB N S W W') ∨ (e = .returned (.bool false) ∧ Jx (pre ++ [x]) W'))
    (W : World) (hBs : W.cell? ⟨Bs, 0, none⟩ = some v) (hsl : Sl W 3 v ls.length (lcs ls)) (hlen : ls.length ≤ 1048576) (hN : Bs < N) (hS : ¬ S Bs) (hvN : ∀ b, v.ownBlock = some b → b < N ∧ ¬ S b)
    (hBf : W.cell? ⟨Bf, 0, none⟩ = some vf) (hfl : Sl W 1 vf fs.length (ics fs)) (hflen : fs.length ≤ 1048576) (hfN : Bf < N) (hfS : ¬ S Bf) (hvf : ∀ b, vf.ownBlock = some b → b < N ∧ ¬ S b) (hNW : N ≤ W.heap.size) (h0 : J [] W) :
    CallsIn Fence.wide n Tryz.prog 58 #[.func (.yield l) #[] #[], .pointer (some ⟨Bs, 0, none⟩), .pointer (some ⟨Bf, 0, none⟩)] W fun e W' => (∃ v, e = .returned v) ∧
      ((∃ ys, ys = zs ∧ J ys W') ∨ (∃ pre, pre <+: zs ∧ Jx pre W')) := by
  have hzl : zs.length = ls.length := by have h := congrArg List.length hz; rwa [List.length_map, pairs_len] at h
  have HZ := Lib.hid hz
  have HZL := Lib.hid hzl
  clear hz hzl
  have hsl0 := hsl
  obtain ⟨_, A, c, rfl, _⟩ := hsl0
  have hfl0 := hfl
  obtain ⟨_, Af, cf, rfl, _⟩ := hfl0
  obtain ⟨nl, HL⟩ : ∃ n, Hid (ls.length = n) := ⟨_, Lib.hid rfl⟩
  obtain ⟨nf, HF⟩ : ∃ n, Hid (fs.length = n) := ⟨_, Lib.hid rfl⟩
  have HSL := Lib.hid hsl
  have HFL := Lib.hid hfl
  have HY := Lib.hid hY
  have HB := Lib.hid hBs
  have HBF := Lib.hid hBf
  have HJA := Lib.hid hJa
  rw [HL.out] at hBs hvN hlen HSL HB
  rw [HF.out] at hBf hvf hflen HFL HBF
  have HV := Lib.hid hvN
  have HVF := Lib.hid hvf
  clear hsl hY hvN hfl hvf hJa
  refine callsIn_of_wp Tryz.func58 rfl trivial ?_ rfl
  simp only [Tryz.ntmps58, List.size_toArray, List.length_cons, List.length_nil, Nat.reduceAdd, Nat.reduceSub, Array.replicate_succ, Array.replicate_zero, List.push_toArray, List.append_toArray, List.nil_append, List.cons_append]
  gi_wp2
  gi_loopw [9] (fun i wr => ∃ k : Nat, k ≤ nl ∧ i = .int .i64 (k : Int) ∧ Hid (J (zs.take k) wr) ∧ Hid (KeepB N S W wr)) (fun i _ => nl - (intOf i).toNat)
  case atStart => exact ⟨0, Nat.zero_le _, rfl, Lib.hid h0, Lib.hid (KeepB.refl _ _ _)⟩
  case round =>
    obtain ⟨k, hk, rfl, HJ, HK⟩ := hrel
    have hc : wr.cell? ⟨Bs, 0, none⟩ = some (.slice A nl c) := (World.cell?_of_block (a := ⟨Bs, 0, none⟩) (HK.out.block Bs hN hS)).trans HB.out
    have hcf : wr.cell? ⟨Bf, 0, none⟩ = some (.slice Af nf cf) := (World.cell?_of_block (a := ⟨Bf, 0, none⟩) (HK.out.block Bf hfN hfS)).trans HBF.out
    have hwN : N ≤ wr.heap.size := Nat.le_trans hNW HK.out.size
    have hBsl : Bs < wr.heap.size := by omega
    have hBfl : Bf < wr.heap.size := by omega
    by_cases hlt : k < nl
    · have hml : k < ls.length := by rw [HL.out]; omega
      obtain ⟨b, off, c', ef, hnc, hcm, hcell⟩ := HSL.out.form (by omega)
      injection ef with e1 e2 e3
      subst e1 e3
      unfold maxLen at hcm
      have hb := HV.out b rfl
      have hrd := late_read (fun j u hu => (World.cell?_of_block (a := ⟨b, off + j, none⟩) (HK.out.block b hb.1 hb.2)).trans (hcell j u hu)) k hml
      have hpk : k < zs.length := by rw [HZL.out]; exact hml
      have HP := Lib.hid (show zs.take (k + 1) = zs.take k ++ [zs[k]] from List.take_succ_eq_append_getElem hpk)
      have HPL := Lib.hid (show (zs.take k).length < ls.length from by rw [List.length_take]; omega)
      have hzk : zs[k].1 = (ls[k], fs.getD k 0) := by
        have h1 : (zs.map (·.1))[k]? = some zs[k].1 := by simp [hpk]
        have h2 : (pairs ls fs)[k]? = some (ls[k], fs.getD k 0) := by rw [List.getElem?_eq_getElem (by rw [pairs_len]; exact hml), pairs_at ls fs k _ hml]
        rw [HZ.out, h2] at h1
        exact (Option.some.inj h1).symm
      generalize ls[k] = x at hrd hzk
      obtain ⟨p1, p2, p3⟩ := hrd
      have HJ1 := Lib.hid (HJA.out _ _ (.cells #[.int .i64 x.side, .int .i64 x.at_, .string x.text] 63) HJ.out)
      have HK1 := Lib.hid (HK.out.trans (KeepB.of_below (S := S) (Below.new (w := wr) (.cells #[.int .i64 x.side, .int .i64 x.at_, .string x.text] 63)) hwN))
      obtain ⟨fn, tmps, assign, body, hy, hR⟩ := HY.out _ zs[k] _ HJ1.out HPL.out
      rw [← HP.out] at hR
      rw [hzk] at hy
      clear hzk
      have HR := Lib.hid hR
      have hk1 : (k : Int) < (nl : Int) := by omega
      simp only [encFate] at hy
      clear hR hcell e2 HP hml hpk HPL
      by_cases hkf : k < nf
      · have hlf : k < fs.length := by rw [HF.out]; exact hkf
        obtain ⟨bf, of, cf', ef', hcf1, hmf, hcellf⟩ := HFL.out.form (by omega)
        injection ef' with ef1 ef2 ef3
        subst ef1 ef3
        unfold maxLen at hmf
        have hbf := HVF.out bf rfl
        have hfd := (World.cell?_of_block (a := ⟨bf, of + k, none⟩) (HK.out.block bf hbf.1 hbf.2)).trans (hcellf k _ (ics_at fs k hlf))
        have hbfl : bf < wr.heap.size := by omega
        rw [show fs.getD k 0 = fs[k] from by simp [List.getD, List.getElem?_eq_getElem hlf]] at hy
        generalize fs[k] = f at hfd hy
        have hkf1 : (k : Int) < (nf : Int) := by omega
        clear hcellf ef2
        gi_wp2
        refine HR.out.mono ?_
        rintro e W3 (⟨rfl, hJ3, hk3⟩ | ⟨rfl, hJx3⟩)
        · have HJ3 := Lib.hid hJ3
          have HK3 := Lib.hid (HK1.out.trans hk3)
          clear hJ3 hk3 HR hy HJ HK p1 p2 p3 hc hcf hfd HJ1 HK1
          gi_wp2
          go_roundw
          case rel => exact ⟨k + 1, by omega, by go_num, HJ3, HK3⟩
          case measure => simp [intOf]; omega
        · have HJ3 := Lib.hid hJx3
          clear hJx3 HR hy HJ HK p1 p2 p3 hc hcf hfd HJ1 HK1
          gi_wp2
          refine bodyPost_ret (results_none rfl _ _ _) rfl ?_
          exact ⟨⟨_, rfl⟩, .inr ⟨_, List.take_prefix _ _, HJ3.out⟩⟩
      · have hlf : fs.length ≤ k := by rw [HF.out]; omega
        rw [show fs.getD k 0 = 0 from by simp [List.getD, List.getElem?_eq_none hlf]] at hy
        have hkf1 : ¬ (k : Int) < (nf : Int) := by omega
        gi_wp2
        refine HR.out.mono ?_
        rintro e W3 (⟨rfl, hJ3, hk3⟩ | ⟨rfl, hJx3⟩)
        · have HJ3 := Lib.hid hJ3
          have HK3 := Lib.hid (HK1.out.trans hk3)
          clear hJ3 hk3 HR hy HJ HK p1 p2 p3 hc hcf HJ1 HK1
          gi_wp2
          go_roundw
          case rel => exact ⟨k + 1, by omega, by go_num, HJ3, HK3⟩
          case measure => simp [intOf]; omega
        · have HJ3 := Lib.hid hJx3
          clear hJx3 HR hy HJ HK p1 p2 p3 hc hcf HJ1 HK1
          gi_wp2
          refine bodyPost_ret (results_none rfl _ _ _) rfl ?_
          exact ⟨⟨_, rfl⟩, .inr ⟨_, List.take_prefix _ _, HJ3.out⟩⟩
    · have HE := Lib.hid (show zs.take k = zs from List.take_of_length_le (by rw [HZL.out, HL.out]; omega))
      gi_wp2
      go_end0
      exact ⟨⟨_, rfl⟩, .inl ⟨_, rfl, by have h := HJ.out; rw [HE.out] at h; exact h⟩⟩

set_option maxHeartbeats 400000 in
theorem fates_in (n : Nat) (A Af : Option Addr) (m c mf cf : Nat) (w : World) :
    CallsIn Fence.wide n Tryz.prog 33 #[.slice A m c, .slice Af mf cf] w fun e w' => e = .returned (.func (.func 58) #[] #[.pointer (some ⟨w.heap.size, 0, none⟩), .pointer (some ⟨w.heap.size + 1, 0, none⟩)]) ∧ w' = (w.alloc (.cells #[.slice A m c] 30)).alloc (.cells #[.slice Af mf cf] 40) := by
  refine callsIn_of_wp Tryz.func33 rfl trivial ?_ rfl
  simp only [Tryz.ntmps33, List.size_toArray, List.length_cons, List.length_nil, Nat.reduceAdd, Nat.reduceSub, Array.replicate_succ, Array.replicate_zero, List.push_toArray, List.append_toArray, List.nil_append, List.cons_append]
  gi_wp2
  go_ret
  exact ⟨rfl, rfl⟩

theorem fates_stops (n : Nat) (hn : 1 ≤ n) (Bs Bf N : Nat) (S : Nat → Prop) (v vf : Value) (ls : List LateM) (fs : List Int) {Pr : LateM × Int → Prop} (zs : List { x : LateM × Int // Pr x }) (hz : zs.map (·.1) = pairs ls fs) (w : World) (hc : w.cell? ⟨Bs, 0, none⟩ = some v) (hBs : Bs < w.heap.size) (hsl : Sl w 3 v ls.length (lcs ls)) (hlow : Low w.heap.size v) (hlen : ls.length ≤ 1048576)
    (hN : Bs < N) (hS : ¬ S Bs) (hvN : ∀ b, v.ownBlock = some b → b < N ∧ ¬ S b)
    (hcf : w.cell? ⟨Bf, 0, none⟩ = some vf) (hBf : Bf < w.heap.size) (hfl : Sl w 1 vf fs.length (ics fs)) (hflow : Low w.heap.size vf) (hflen : fs.length ≤ 1048576) (hfN : Bf < N) (hfS : ¬ S Bf) (hvf : ∀ b, vf.ownBlock = some b → b < N ∧ ¬ S b) (hNw : N ≤ w.heap.size) :
    SeqStopsK Fence.wide n Tryz.prog 58 #[.pointer (some ⟨Bs, 0, none⟩), .pointer (some ⟨Bf, 0, none⟩)] (fun x : { x : LateM × Int // Pr x } => encFate x.1) (KeepB N S) (fun ys => ys = zs) (fun pre => pre <+: zs) ls.length w := fun l J Jx W hW hJ _ hY h0 =>
  fates1_in n hn l Bs Bf N S v vf ls fs zs hz J Jx (fun s X o hs => hJ s X _ none hs (World.grownBy_alloc X o none) (fun r e => by cases e)) hY W ((hW.cell (p := ⟨Bs, 0, none⟩) hBs).trans hc) (hsl.below hW hlow) hlen hN hS hvN ((hW.cell (p := ⟨Bf, 0, none⟩) hBf).trans hcf) (hfl.below hW hflow) hflen hfN hfS hvf (Nat.le_trans hNw hW.size) h0
end Go.Proofs.YtfcfgdpelbljnaaGreatDoor
