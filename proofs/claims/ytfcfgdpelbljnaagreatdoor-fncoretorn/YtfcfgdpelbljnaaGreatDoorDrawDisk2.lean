/-
  spec's l2Disk: a drawn disk.
-/
import Derived.Test.YtfcfgdpelbljnaaGreatDoorDrawDisk
import Derived.Deep.CutRange
import Derived.Deep.RegionHeld3
set_option maxRecDepth 100000
namespace Go.Proofs.YtfcfgdpelbljnaaGreatDoor
open Go.ChangeShapes Go.WideShapes Go.ChangeAt Go.RowKit Go.Proofs.Palim

def DrawnD (w : World) (g : Nat) (e : Ending) (w' : World) : Prop :=
  ∃ (d : DiskM) (v0 v1 vl : Value) (k' : Nat), e = .returned (.agg #[v0, v1, vl]) ∧ DiskOwn w' w.heap.size v0 v1 vl d ∧ DiskShort d ∧ k' ≤ 5000 ∧ w.grownBy w' (some g) ∧ Rd w' g k'
theorem pick_2 (g k : Nat) (w : World) (hr : Rd w g k) (hk : k ≤ 1000000) :
    Calls Tryz.prog 36 #[.pointer (some ⟨g, 0, none⟩), .int .i64 2] w fun e w' => ∃ r : Nat, r < 2 ∧ e = .returned (.int .i64 (r : Int)) ∧ w.grownBy w' (some g) ∧ Rd w' g (k + 1) := pick_op g k 2 w hr hk (by omega) (by omega)
theorem pick_6 (g k : Nat) (w : World) (hr : Rd w g k) (hk : k ≤ 1000000) :
    Calls Tryz.prog 36 #[.pointer (some ⟨g, 0, none⟩), .int .i64 6] w fun e w' => ∃ r : Nat, r < 6 ∧ e = .returned (.int .i64 (r : Int)) ∧ w.grownBy w' (some g) ∧ Rd w' g (k + 1) := pick_op g k 6 w hr hk (by omega) (by omega)
theorem pick_8 (g k : Nat) (w : World) (hr : Rd w g k) (hk : k ≤ 1000000) :
    Calls Tryz.prog 36 #[.pointer (some ⟨g, 0, none⟩), .int .i64 8] w fun e w' => ∃ r : Nat, r < 8 ∧ e = .returned (.int .i64 (r : Int)) ∧ w.grownBy w' (some g) ∧ Rd w' g (k + 1) := pick_op g k 8 w hr hk (by omega) (by omega)
theorem pick_14 (g k : Nat) (w : World) (hr : Rd w g k) (hk : k ≤ 1000000) :
    Calls Tryz.prog 36 #[.pointer (some ⟨g, 0, none⟩), .int .i64 14] w fun e w' => ∃ r : Nat, r < 14 ∧ e = .returned (.int .i64 (r : Int)) ∧ w.grownBy w' (some g) ∧ Rd w' g (k + 1) := pick_op g k 14 w hr hk (by omega) (by omega)
theorem pick_20 (g k : Nat) (w : World) (hr : Rd w g k) (hk : k ≤ 1000000) :
    Calls Tryz.prog 36 #[.pointer (some ⟨g, 0, none⟩), .int .i64 20] w fun e w' => ∃ r : Nat, r < 20 ∧ e = .returned (.int .i64 (r : Int)) ∧ w.grownBy w' (some g) ∧ Rd w' g (k + 1) := pick_op g k 20 w hr hk (by omega) (by omega)
theorem pick_24 (g k : Nat) (w : World) (hr : Rd w g k) (hk : k ≤ 1000000) :
    Calls Tryz.prog 36 #[.pointer (some ⟨g, 0, none⟩), .int .i64 24] w fun e w' => ∃ r : Nat, r < 24 ∧ e = .returned (.int .i64 (r : Int)) ∧ w.grownBy w' (some g) ∧ Rd w' g (k + 1) := pick_op g k 24 w hr hk (by omega) (by omega)

/-- A disk in a box of its own, beside the one that is drawn. -/
structure Beside (w wx : World) (X N : Nat) (s0 s1 sl : Value) (r : DiskM) : Prop where
  box : Box wx N [s0, s1, sl]
  own : DiskOwn wx (w.heap.size + 1) s0 s1 sl r
  nx : ¬ DTurns s0 s1 sl X
  ne : N ≠ X
  tiny : Tiny r
theorem LD.set {w wr : World} {g x kk N : Nat} {u0 u1 ul : Value} {d : DiskM} (h : LD w wr g x kk u0 u1 ul d) (hN : x < N) (hn : ¬ DTurns u0 u1 ul N) (hg : g < N) (j : Nat) (v : Value) : LD w (wr.setCell ⟨N, j, none⟩ v) g x kk u0 u1 ul d := by
  have hx := h.hx
  have hk : ∀ b, b ≠ N → (wr.setCell ⟨N, j, none⟩ v).heap[b]? = wr.heap[b]? := fun b hb => Below.heap_setCell _ _ _ _ hb
  refine ⟨h.xr.other (by simp; omega) v, h.xo.other (by simp; omega) v, ⟨own_kept h.own.o0 fun b e => hk b (fun e' => hn (Or.inl (e' ▸ e))), own_kept h.own.o1 fun b e => hk b (fun e' => hn (Or.inr (Or.inl (e' ▸ e)))), own_kept h.own.ol fun b e => hk b (fun e' => hn (Or.inr (Or.inr (e' ▸ e)))), h.own.p01, h.own.p0l, h.own.p1l⟩, h.nx, h.hx, h.rd.kept fun b hb => hk b (by omega), grown_set h.gr (by omega) j v, h.tiny, h.hg⟩
theorem stored {w wr : World} {g x kk N : Nat} {u0 u1 ul s0 s1 sl : Value} {d r : DiskM} {cs : List Value} (h : LD w wr g x kk u0 u1 ul d) (ho : DiskOwn wr (w.heap.size + 1) s0 s1 sl r) (hsx : ¬ DTurns s0 s1 sl x) (hnx : ¬ DTurns s0 s1 sl N) (hb : Box wr N cs) (hN : x < N ∧ g < N) (hT : Tiny r) (hcs : cs.length = 3 := by rfl) (hn : ¬ DTurns u0 u1 ul N := by assumption) :
    LD w (((wr.setCell ⟨N, 0, none⟩ s0).setCell ⟨N, 1, none⟩ s1).setCell ⟨N, 2, none⟩ sl) g x kk u0 u1 ul d ∧ Beside w (((wr.setCell ⟨N, 0, none⟩ s0).setCell ⟨N, 1, none⟩ s1).setCell ⟨N, 2, none⟩ sl) x N s0 s1 sl r := by
  have hk : ∀ b, b ≠ N → (((wr.setCell ⟨N, 0, none⟩ s0).setCell ⟨N, 1, none⟩ s1).setCell ⟨N, 2, none⟩ sl).heap[b]? = wr.heap[b]? := fun b hb => by
    rw [Below.heap_setCell _ _ _ _ hb, Below.heap_setCell _ _ _ _ hb, Below.heap_setCell _ _ _ _ hb]
  refine ⟨((h.set hN.1 hn hN.2 0 s0).set hN.1 hn hN.2 1 s1).set hN.1 hn hN.2 2 sl, ?_, ⟨own_kept ho.o0 fun b e => hk b (fun e' => hnx (Or.inl (e' ▸ e))), own_kept ho.o1 fun b e => hk b (fun e' => hnx (Or.inr (Or.inl (e' ▸ e)))), own_kept ho.ol fun b e => hk b (fun e' => hnx (Or.inr (Or.inr (e' ▸ e)))), ho.p01, ho.p0l, ho.p1l⟩, hsx, by omega, hT⟩
  match cs, hcs with
  | [a, b, c], _ => exact ((hb.set 0 s0).set 1 s1).set 2 sl

/-- A drawn disk at last, in the box X. -/
structure Fin (w W : World) (g X kk : Nat) (v0 v1 vl : Value) (d : DiskM) : Prop where
  xr : Box W w.heap.size [.slice none 0 0, .slice none 0 0, .slice none 0 0]
  xo : Box W X [v0, v1, vl]
  own : DiskOwn W (w.heap.size + 1) v0 v1 vl d
  rd : Rd W g kk
  gr : w.grownBy W (some g)
  short : DiskShort d
  hg : g < w.heap.size
  hx : w.heap.size + 1 ≤ X
theorem LD.fin {w wr : World} {g x kk : Nat} {u0 u1 ul : Value} {d : DiskM} (h : LD w wr g x kk u0 u1 ul d) : Fin w wr g x kk u0 u1 ul d := ⟨h.xr, h.xo, h.own, h.rd, h.gr, h.tiny.short, h.hg, h.hx⟩
/-- It is handed back. -/
theorem Fin.back {w W : World} {g X kk : Nat} {v0 v1 vl : Value} {d : DiskM} (h : Fin w W g X kk v0 v1 vl d) (hk : kk ≤ 5000) : DrawnD w g (.returned (.agg #[v0, v1, vl])) (((W.setCell ⟨w.heap.size, 0, none⟩ v0).setCell ⟨w.heap.size, 1, none⟩ v1).setCell ⟨w.heap.size, 2, none⟩ vl) := by
  have hg := h.hg
  refine ⟨d, v0, v1, vl, kk, rfl, (h.own.set3 (by simp) (by simp) (by simp)).base (by omega), h.short, hk, grown_set (grown_set (grown_set h.gr (by omega) 0 v0) (by omega) 1 v1) (by omega) 2 vl, ?_⟩
  refine h.rd.kept fun b hb => ?_
  rw [Below.heap_setCell _ _ _ _ (by simp; omega), Below.heap_setCell _ _ _ _ (by simp; omega), Below.heap_setCell _ _ _ _ (by simp; omega)]
/-- Side 0 struck. -/
theorem LD.struck {w wr : World} {g x kk : Nat} {u0 u1 ul : Value} {d : DiskM} (h : LD w wr g x kk u0 u1 ul d) : Fin w (wr.setCell ⟨x, 0, none⟩ (.slice none 0 0)) g x kk (.slice none 0 0) u1 ul ⟨[], d.s1, d.late⟩ := by
  have hx := h.hx
  have hg := h.hg
  have hk : ∀ b, b ≠ x → (wr.setCell ⟨x, 0, none⟩ (.slice none 0 0)).heap[b]? = wr.heap[b]? := fun b hb => Below.heap_setCell _ _ _ _ hb
  have hs := h.tiny.short
  exact ⟨h.xr.other (by simp; omega) _, h.xo.set 0 _, ⟨⟨rfl, .inl ⟨rfl, rfl⟩⟩, own_kept h.own.o1 fun b e => hk b (fun e' => h.nx (Or.inr (Or.inl (e' ▸ e)))), own_kept h.own.ol fun b e => hk b (fun e' => h.nx (Or.inr (Or.inr (e' ▸ e)))), fun _ e => by simp [Value.ownBlock] at e, fun _ e => by simp [Value.ownBlock] at e, h.own.p1l⟩, h.rd.kept fun b hb => hk b (by omega), grown_set h.gr (by omega) 0 _, ⟨by simp, hs.n1, hs.nl, by simp, hs.z1, hs.zl⟩, hg, hx⟩
/-- One sector more on side 1. -/
theorem LD.more1 {w wr w3 : World} {g x kk gg cap n1 e1 : Nat} {u0 ul : Value} {U1 : Option Addr} {d : DiskM} {o : Obj} {t : ByteArray} (h : LD w wr g x kk u0 (.slice U1 n1 e1) ul d) (hn : d.s1.length = n1) (ht : t.size ≤ 1048576)
    (hw : w3.ownsRow (w.heap.size + 1) 9 1 (.slice (some ⟨gg, 0, none⟩) (n1 + 1) cap) (n1 + 1) (scs d.s1 ++ [.string t])) (hg : (wr.alloc o).grownBy w3 (Value.slice U1 n1 e1).ownBlock) (hat : (Value.slice U1 n1 e1).ownBlock = some gg ∨ gg = wr.heap.size + 1) :
    Box w3 x [u0, .slice U1 n1 e1, ul] ∧ Fin w (w3.setCell ⟨x, 1, none⟩ (.slice (some ⟨gg, 0, none⟩) (n1 + 1) cap)) g x kk u0 (.slice (some ⟨gg, 0, none⟩) (n1 + 1) cap) ul ⟨d.s0, d.s1 ++ [t], d.late⟩ := by
  have hx := h.hx
  have hgl := h.hg
  have hxl := h.xo.lt
  have hkeep : ∀ b, b < wr.heap.size → (Value.slice U1 n1 e1).ownBlock ≠ some b → w3.heap[b]? = wr.heap[b]? := fun b hb hne =>
    (hg.block b (by simp; omega) (fun e => hne e.symm)).trans (Below.heap_alloc wr o b hb)
  have hlow : ∀ b, b < w.heap.size + 1 → b < wr.heap.size → w3.heap[b]? = wr.heap[b]? := fun b hb hb2 => hkeep b hb2 (fun e => by have := (h.own.o1.lt b e).1; omega)
  have hgx : gg ≠ x := by
    rcases hat with e | e
    · intro e'; exact h.nx (Or.inr (Or.inl (by rw [e, e'])))
    · omega
  have o0 := own_kept h.own.o0 (w' := w3) fun b e => hkeep b (h.own.o0.lt b e).2 (fun e' => h.own.p01 b e e')
  have ol := own_kept h.own.ol (w' := w3) fun b e => hkeep b (h.own.ol.lt b e).2 (fun e' => h.own.p1l b e' e)
  have hs := h.tiny.short
  have hn1 := h.tiny.n1
  have hk : ∀ b, b ≠ x → (w3.setCell ⟨x, 1, none⟩ (.slice (some ⟨gg, 0, none⟩) (n1 + 1) cap)).heap[b]? = w3.heap[b]? := fun b hb => Below.heap_setCell _ _ _ _ hb
  have hxo : Box w3 x [u0, .slice U1 n1 e1, ul] := h.xo.kept (hkeep x hxl (fun e => h.nx (Or.inr (Or.inl e))))
  have hwr : w.heap.size < wr.heap.size := h.xr.lt
  refine ⟨hxo, (h.xr.kept (hlow _ (by omega) hwr)).other (by simp; omega) _, hxo.set 1 _, ⟨own_kept o0 fun b e => hk b (fun e' => h.nx (Or.inl (e' ▸ e))), ?_, own_kept ol fun b e => hk b (fun e' => h.nx (Or.inr (Or.inr (e' ▸ e)))), ?_, h.own.p0l, ?_⟩, ?_, ?_, ⟨hs.n0, by simp; omega, hs.nl, hs.z0, ?_, hs.zl⟩, hgl, hx⟩
  · have hl : (d.s1 ++ [t]).length = n1 + 1 := by simp [hn]
    show World.ownsRow _ _ _ _ _ (d.s1 ++ [t]).length (scs (d.s1 ++ [t]))
    rw [hl, scs_snoc]
    exact own_kept hw fun b e => hk b (fun e' => hgx ((by simpa [Value.ownBlock] using e : gg = b).trans e'))
  · intro b e e'
    have hbg : gg = b := by simpa [Value.ownBlock] using e'
    subst hbg
    rcases hat with h' | h'
    · exact h.own.p01 _ e h'
    · have := (h.own.o0.lt _ e).2; omega
  · intro b e e'
    have hbg : gg = b := by simpa [Value.ownBlock] using e
    subst hbg
    rcases hat with h' | h'
    · exact h.own.p1l _ h' e'
    · have := (h.own.ol.lt _ e').2; omega
  · exact h.rd.kept fun b hb => (hk b (by omega)).trans (hlow b (by omega) (by omega))
  · refine grown_set (a := w) ?_ (by omega) 1 _
    exact ⟨(hg.os.trans rfl).trans h.gr.os, (hg.tape.trans rfl).trans h.gr.tape, (hg.output.trans rfl).trans h.gr.output, Nat.le_trans h.gr.size (Nat.le_trans (by simp) hg.size), fun b hb hne => (hlow b (by omega) (by omega)).trans (h.gr.block b hb hne)⟩
  · intro s hs'
    rcases List.mem_append.1 hs' with h' | h'
    · exact hs.z1 s h'
    · obtain rfl := List.mem_singleton.1 h'; exact ht

/-- One late write more. -/
theorem LD.moreL {w wr w3 : World} {g x kk gg cap nl el : Nat} {u0 u1 : Value} {Ul : Option Addr} {d : DiskM} {o : Obj} {l : LateM} (h : LD w wr g x kk u0 u1 (.slice Ul nl el) d) (hn : d.late.length = nl) (ht : l.text.size ≤ 1048576)
    (hw : w3.ownsRow (w.heap.size + 1) 63 3 (.slice (some ⟨gg, 0, none⟩) (nl + 1) cap) (nl + 1) (lcs d.late ++ lc l)) (hg : (wr.alloc o).grownBy w3 (Value.slice Ul nl el).ownBlock) (hat : (Value.slice Ul nl el).ownBlock = some gg ∨ gg = wr.heap.size + 1) :
    Box w3 x [u0, u1, .slice Ul nl el] ∧ Fin w (w3.setCell ⟨x, 2, none⟩ (.slice (some ⟨gg, 0, none⟩) (nl + 1) cap)) g x kk u0 u1 (.slice (some ⟨gg, 0, none⟩) (nl + 1) cap) ⟨d.s0, d.s1, d.late ++ [l]⟩ := by
  have hx := h.hx
  have hgl := h.hg
  have hxl := h.xo.lt
  have hkeep : ∀ b, b < wr.heap.size → (Value.slice Ul nl el).ownBlock ≠ some b → w3.heap[b]? = wr.heap[b]? := fun b hb hne =>
    (hg.block b (by simp; omega) (fun e => hne e.symm)).trans (Below.heap_alloc wr o b hb)
  have hlow : ∀ b, b < w.heap.size + 1 → b < wr.heap.size → w3.heap[b]? = wr.heap[b]? := fun b hb hb2 => hkeep b hb2 (fun e => by have := (h.own.ol.lt b e).1; omega)
  have hgx : gg ≠ x := by
    rcases hat with e | e
    · intro e'; exact h.nx (Or.inr (Or.inr (by rw [e, e'])))
    · omega
  have o0 := own_kept h.own.o0 (w' := w3) fun b e => hkeep b (h.own.o0.lt b e).2 (fun e' => h.own.p0l b e e')
  have o1 := own_kept h.own.o1 (w' := w3) fun b e => hkeep b (h.own.o1.lt b e).2 (fun e' => h.own.p1l b e e')
  have hs := h.tiny.short
  have hnl := h.tiny.nl
  have hk : ∀ b, b ≠ x → (w3.setCell ⟨x, 2, none⟩ (.slice (some ⟨gg, 0, none⟩) (nl + 1) cap)).heap[b]? = w3.heap[b]? := fun b hb => Below.heap_setCell _ _ _ _ hb
  have hxo : Box w3 x [u0, u1, .slice Ul nl el] := h.xo.kept (hkeep x hxl (fun e => h.nx (Or.inr (Or.inr e))))
  have hwr : w.heap.size < wr.heap.size := h.xr.lt
  refine ⟨hxo, (h.xr.kept (hlow _ (by omega) hwr)).other (by simp; omega) _, hxo.set 2 _, ⟨own_kept o0 fun b e => hk b (fun e' => h.nx (Or.inl (e' ▸ e))), own_kept o1 fun b e => hk b (fun e' => h.nx (Or.inr (Or.inl (e' ▸ e)))), ?_, h.own.p01, ?_, ?_⟩, ?_, ?_, ⟨hs.n0, hs.n1, by simp; omega, hs.z0, hs.z1, ?_⟩, hgl, hx⟩
  · have hl : (d.late ++ [l]).length = nl + 1 := by simp [hn]
    show World.ownsRow _ _ _ _ _ (d.late ++ [l]).length (lcs (d.late ++ [l]))
    rw [hl, lcs_snoc]
    exact own_kept hw fun b e => hk b (fun e' => hgx ((by simpa [Value.ownBlock] using e : gg = b).trans e'))
  · intro b e e'
    have hbg : gg = b := by simpa [Value.ownBlock] using e'
    subst hbg
    rcases hat with h' | h'
    · exact h.own.p0l _ e h'
    · have := (h.own.o0.lt _ e).2; omega
  · intro b e e'
    have hbg : gg = b := by simpa [Value.ownBlock] using e'
    subst hbg
    rcases hat with h' | h'
    · exact h.own.p1l _ e h'
    · have := (h.own.o1.lt _ e).2; omega
  · exact h.rd.kept fun b hb => (hk b (by omega)).trans (hlow b (by omega) (by omega))
  · refine grown_set (a := w) ?_ (by omega) 2 _
    exact ⟨(hg.os.trans rfl).trans h.gr.os, (hg.tape.trans rfl).trans h.gr.tape, (hg.output.trans rfl).trans h.gr.output, Nat.le_trans h.gr.size (Nat.le_trans (by simp) hg.size), fun b hb hne => (hlow b (by omega) (by omega)).trans (h.gr.block b hb hne)⟩
  · intro s hs'
    rcases List.mem_append.1 hs' with h' | h'
    · exact hs.zl s h'
    · obtain rfl := List.mem_singleton.1 h'; exact ht
theorem heapN {w : World} {b : Nat} {o : Obj} (h : w.heap[b]? = some o) (o2 : Obj) : (w.alloc o2).heap[b]? = some o := (Below.heap_alloc w o2 b (Array.getElem?_eq_some_iff.1 h).1).trans h
theorem heapG {w w' : World} {b g : Nat} {o : Obj} (h : w.heap[b]? = some o) (hg : w.grownBy w' (some g)) (hne : b ≠ g) : w'.heap[b]? = some o := (hg.block b (Array.getElem?_eq_some_iff.1 h).1 (fun e => hne (Option.some.inj e))).trans h

/-- Behind the write of a round: the box N holds the disk written. -/
def Wrote (w : World) (g X k : Nat) (u0 u1 ul : Value) (d : DiskM) (s5 : Value) (wx : World) : Prop :=
  ∃ N s0 s1 sl r k2, s5 = .pointer (some ⟨N, 0, none⟩) ∧ k2 ≤ k + 9 ∧ Hid (LD w wx g X k2 u0 u1 ul d) ∧ Hid (Beside w wx X N s0 s1 sl r)

end Go.Proofs.YtfcfgdpelbljnaaGreatDoor
