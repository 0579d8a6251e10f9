/-
  spec's l2Disk: a drawn disk.
-/
import Derived.Test.YtfacbjldpenpjaaDrawDisk
import Derived.Deep.CutRange
import Derived.Deep.RegionHeld3
set_option maxRecDepth 100000
namespace Go.Proofs.Ytfacbjldpenpjaa
open Go.ChangeShapes Go.WideShapes Go.ChangeAt Go.RowKit Go.Proofs.Palim

def DrawnD (w : World) (g : Nat) (e : Ending) (w' : World) : Prop :=
  ∃ (d : DiskM) (v0 v1 vl : Value) (k' : Nat), e = .returned (.agg #[v0, v1, vl]) ∧ DiskOwn w' w.heap.size v0 v1 vl d ∧ DiskShort d ∧ k' ≤ 5000 ∧ w.grownBy w' (some g) ∧ Rd w' g k'
theorem pick_2 (g k : Nat) (w : World) (hr : Rd w g k) (hk : k ≤ 1000000) :
    Calls Try.prog 28 #[.pointer (some ⟨g, 0, none⟩), .int .i64 2] w fun e w' => ∃ r : Nat, r < 2 ∧ e = .returned (.int .i64 (r : Int)) ∧ w.grownBy w' (some g) ∧ Rd w' g (k + 1) := pick_op g k 2 w hr hk (by omega) (by omega)
theorem pick_6 (g k : Nat) (w : World) (hr : Rd w g k) (hk : k ≤ 1000000) :
    Calls Try.prog 28 #[.pointer (some ⟨g, 0, none⟩), .int .i64 6] w fun e w' => ∃ r : Nat, r < 6 ∧ e = .returned (.int .i64 (r : Int)) ∧ w.grownBy w' (some g) ∧ Rd w' g (k + 1) := pick_op g k 6 w hr hk (by omega) (by omega)
theorem pick_8 (g k : Nat) (w : World) (hr : Rd w g k) (hk : k ≤ 1000000) :
    Calls Try.prog 28 #[.pointer (some ⟨g, 0, none⟩), .int .i64 8] w fun e w' => ∃ r : Nat, r < 8 ∧ e = .returned (.int .i64 (r : Int)) ∧ w.grownBy w' (some g) ∧ Rd w' g (k + 1) := pick_op g k 8 w hr hk (by omega) (by omega)
theorem pick_14 (g k : Nat) (w : World) (hr : Rd w g k) (hk : k ≤ 1000000) :
    Calls Try.prog 28 #[.pointer (some ⟨g, 0, none⟩), .int .i64 14] w fun e w' => ∃ r : Nat, r < 14 ∧ e = .returned (.int .i64 (r : Int)) ∧ w.grownBy w' (some g) ∧ Rd w' g (k + 1) := pick_op g k 14 w hr hk (by omega) (by omega)
theorem pick_20 (g k : Nat) (w : World) (hr : Rd w g k) (hk : k ≤ 1000000) :
    Calls Try.prog 28 #[.pointer (some ⟨g, 0, none⟩), .int .i64 20] w fun e w' => ∃ r : Nat, r < 20 ∧ e = .returned (.int .i64 (r : Int)) ∧ w.grownBy w' (some g) ∧ Rd w' g (k + 1) := pick_op g k 20 w hr hk (by omega) (by omega)
theorem pick_24 (g k : Nat) (w : World) (hr : Rd w g k) (hk : k ≤ 1000000) :
    Calls Try.prog 28 #[.pointer (some ⟨g, 0, none⟩), .int .i64 24] w fun e w' => ∃ r : Nat, r < 24 ∧ e = .returned (.int .i64 (r : Int)) ∧ w.grownBy w' (some g) ∧ Rd w' g (k + 1) := pick_op g k 24 w hr hk (by omega) (by omega)

/-- A disk in a box of its own, beside the one that is drawn. -/
structure Beside (w wx : World) (X N : Nat) (s0 s1 sl : Value) (r : DiskM) : Prop where
  box : Box wx N [s0, s1, sl]
  own : DiskOwn wx (w.heap.size + 1) s0 s1 sl r
  nx : ¬ DTurns s0 s1 sl X
  ne : N ≠ X
  tiny : Tiny r
theorem LD.set {w wr : World} {g x kk N : Nat} {u0 u1 ul : Value} {d : DiskM} (h : LD w wr g x kk u0 u1 ul d) (hN : x < N) (hn : ¬ DTurns u0 u1 ul N) (hg : g < N) (j : Nat) (v : Value) : LD w (wr.setCell ⟨N, j, none⟩ v) g x kk u0 u1 ul d := by
  have hx := h.hx
  have hk : ∀ b, b ≠ N → (wr.setCell ⟨N, j, none⟩ v).heap[b]? = wr.heap[b]? := fun b hb => Below.heap_setCell _ _ _ _ hb
  refine ⟨h.xr.other (by simp; omega) v, h.xo.other (by simp; omega) v, ⟨own_kept h.own.o0 fun b e => hk b (fun e' => hn (Or.inl (e' ▸ e))), own_kept h.own.o1 fun b e => hk b (fun e' => hn (Or.inr (Or.inl (e' ▸ e)))), own_kept h.own.ol fun b e => hk b (fun e' => hn (Or.inr (Or.inr (e' ▸ e)))), h.own.p01, h.own.p0l, h.own.p1l⟩, h.nx, h.hx, h.rd.kept fun b hb => hk b (by omega), grown_set h.gr (by omega) j v, h.tiny, h.hg⟩
theorem stored {w wr : World} {g x kk N : Nat} {u0 u1 ul s0 s1 sl : Value} {d r : DiskM} {cs : List Value} (h : LD w wr g x kk u0 u1 ul d) (ho : DiskOwn wr (w.heap.size + 1) s0 s1 sl r) (hsx : ¬ DTurns s0 s1 sl x) (hnx : ¬ DTurns s0 s1 sl N) (hb : Box wr N cs) (hN : x < N ∧ g < N) (hT : Tiny r) (hcs : cs.length = 3 := by rfl) (hn : ¬ DTurns u0 u1 ul N := by assumption) :
    LD w (((wr.setCell ⟨N, 0, none⟩ s0).setCell ⟨N, 1, none⟩ s1).setCell ⟨N, 2, none⟩ sl) g x kk u0 u1 ul d ∧ Beside w (((wr.setCell ⟨N, 0, none⟩ s0).setCell ⟨N, 1, none⟩ s1).setCell ⟨N, 2, none⟩ sl) x N s0 s1 sl r := by
  have hk : ∀ b, b ≠ N → (((wr.setCell ⟨N, 0, none⟩ s0).setCell ⟨N, 1, none⟩ s1).setCell ⟨N, 2, none⟩ sl).heap[b]? = wr.heap[b]? := fun b hb => by
    rw [Below.heap_setCell _ _ _ _ hb, Below.heap_setCell _ _ _ _ hb, Below.heap_setCell _ _ _ _ hb]
  refine ⟨((h.set hN.1 hn hN.2 0 s0).set hN.1 hn hN.2 1 s1).set hN.1 hn hN.2 2 sl, ?_, ⟨own_kept ho.o0 fun b e => hk b (fun e' => hnx (Or.inl (e' ▸ e))), own_kept ho.o1 fun b e => hk b (fun e' => hnx (Or.inr (Or.inl (e' ▸ e)))), own_kept ho.ol fun b e => hk b (fun e' => hnx (Or.inr (Or.inr (e' ▸ e)))), ho.p01, ho.p0l, ho.p1l⟩, hsx, by omega, hT⟩
  match cs, hcs with
  | [a, b, c], _ => exact ((hb.set 0 s0).set 1 s1).set 2 sl

/-- A drawn disk at last, in the box X. -/
structure Fin (w W : World) (g X kk : Nat) (v0 v1 vl : Value) (d : DiskM) : Prop where
  xr : Box W w.heap.size [.slice none 0 0, .slice none 0 0, .slice none 0 0]
  xo : Box W X [v0, v1, vl]
  own : DiskOwn W (w.heap.size + 1) v0 v1 vl d
  rd : Rd W g kk
  gr : w.grownBy W (some g)
  short : DiskShort d
  hg : g < w.heap.size
  hx : w.heap.size + 1 ≤ X
theorem LD.fin {w wr : World} {g x kk : Nat} {u0 u1 ul : Value} {d : DiskM} (h : LD w wr g x kk u0 u1 ul d) : Fin w wr g x kk u0 u1 ul d := ⟨h.xr, h.xo, h.own, h.rd, h.gr, h.tiny.short, h.hg, h.hx⟩
/-- It is handed back. -/
theorem Fin.back {w W : World} {g X kk : Nat} {v0 v1 vl : Value} {d : DiskM} (h : Fin w W g X kk v0 v1 vl d) (hk : kk ≤ 5000) : DrawnD w g (.returned (.agg #[v0, v1, vl])) (((W.setCell ⟨w.heap.size, 0, none⟩ v0).setCell ⟨w.heap.size, 1, none⟩ v1).setCell ⟨w.heap.size, 2, none⟩ vl) := by
  have hg := h.hg
  refine ⟨d, v0, v1, vl, kk, rfl, (h.own.set3 (by simp) (by simp) (by simp)).base (by omega), h.short, hk, grown_set (grown_set (grown_set h.gr (by omega) 0 v0) (by omega) 1 v1) (by omega) 2 vl, ?_⟩
  refine h.rd.kept fun b hb => ?_
  rw [Below.heap_setCell _ _ _ _ (by simp; omega), Below.heap_setCell _ _ _ _ (by simp; omega), Below.heap_setCell _ _ _ _ (by simp; omega)]
/-- Side 0 struck. -/
theorem LD.struck {w wr : World} {g x kk : Nat} {u0 u1 ul : Value} {d : DiskM} (h : LD w wr g x kk u0 u1 ul d) : Fin w (wr.setCell ⟨x, 0, none⟩ (.slice none 0 0)) g x kk (.slice none 0 0) u1 ul ⟨[], d.s1, d.late⟩ := by
  have hx := h.hx
  have hg := h.hg
  have hk : ∀ b, b ≠ x → (wr.setCell ⟨x, 0, none⟩ (.slice none 0 0)).heap[b]? = wr.heap[b]? := fun b hb => Below.heap_setCell _ _ _ _ hb
  have hs := h.tiny.short
  exact ⟨h.xr.other (by simp; omega) _, h.xo.set 0 _, ⟨⟨rfl, .inl ⟨rfl, rfl⟩⟩, own_kept h.own.o1 fun b e => hk b (fun e' => h.nx (Or.inr (Or.inl (e' ▸ e)))), own_kept h.own.ol fun b e => hk b (fun e' => h.nx (Or.inr (Or.inr (e' ▸ e)))), fun _ e => by simp [Value.ownBlock] at e, fun _ e => by simp [Value.ownBlock] at e, h.own.p1l⟩, h.rd.kept fun b hb => hk b (by omega), grown_set h.gr (by omega) 0 _, ⟨by simp, hs.n1, hs.nl, by simp, hs.z1, hs.zl⟩, hg, hx⟩
/-- One sector more on side 1. -/
theorem LD.more1 {w wr w3 : World} {g x kk gg cap n1 e1 : Nat} {u0 ul : Value} {U1 : Option Addr} {d : DiskM} {o : Obj} {t : ByteArray} (h : LD w wr g x kk u0 (.slice U1 n1 e1) ul d) (hn : d.s1.length = n1) (ht : t.size ≤ 1048576)
    (hw : w3.ownsRow (w.heap.size + 1) 9 1 (.slice (some ⟨gg, 0, none⟩) (n1 + 1) cap) (n1 + 1) (scs d.s1 ++ [.string t])) (hg : (wr.alloc o).grownBy w3 (Value.slice U1 n1 e1).ownBlock) (hat : (Value.slice U1 n1 e1).ownBlock = some gg ∨ gg = wr.heap.size + 1) :
    Box w3 x [u0, .slice U1 n1 e1, ul] ∧ Fin w (w3.setCell ⟨x, 1, none⟩ (.slice (some ⟨gg, 0, none⟩) (n1 + 1) cap)) g x kk u0 (.slice (some ⟨gg, 0, none⟩) (n1 + 1) cap) ul ⟨d.s0, d.s1 ++ [t], d.late⟩ := by
  have hx := h.hx
  have hgl := h.hg
  have hxl := h.xo.lt
  have hkeep : ∀ b, b < wr.heap.size → (Value.slice U1 n1 e1).ownBlock ≠ some b → w3.heap[b]? = wr.heap[b]? := fun b hb hne =>
    (hg.block b (by simp; omega) (fun e => hne e.symm)).trans (Below.heap_alloc wr o b hb)
  have hlow : ∀ b, b < w.heap.size + 1 → b < wr.heap.size → w3.heap[b]? = wr.heap[b]? := fun b hb hb2 => hkeep b hb2 (fun e => by have := (h.own.o1.lt b e).1; omega)
  have hgx : gg ≠ x := by
    rcases hat with e | e
    · intro e'; exact h.nx (Or.inr (Or.inl (by rw [e, e'])))
    · omega
  have o0 := own_kept h.own.o0 (w' := w3) fun b e => hkeep b (h.own.o0.lt b e).2 (fun e' => h.own.p01 b e e')
  have ol := own_kept h.own.ol (w' := w3) fun b e => hkeep b (h.own.ol.lt b e).2 (fun e' => h.own.p1l b e' e)
  have hs := h.tiny.short
  have hn1 := h.tiny.n1
  have hk : ∀ b, b ≠ x → (w3.setCell ⟨x, 1, none⟩ (.slice (some ⟨gg, 0, none⟩) (n1 + 1) cap)).heap[b]? = w3.heap[b]? := fun b hb => Below.heap_setCell _ _ _ _ hb
  have hxo : Box w3 x [u0, .slice U1 n1 e1, ul] := h.xo.kept (hkeep x hxl (fun e => h.nx (Or.inr (Or.inl e))))
  have hwr : w.heap.size < wr.heap.size := h.xr.lt
  refine ⟨hxo, (h.xr.kept (hlow _ (by omega) hwr)).other (by simp; omega) _, hxo.set 1 _, ⟨own_kept o0 fun b e => hk b (fun e' => h.nx (Or.inl (e' ▸ e))), ?_, own_kept ol fun b e => hk b (fun e' => h.nx (Or.inr (Or.inr (e' ▸ e)))), ?_, h.own.p0l, ?_⟩, ?_, ?_, ⟨hs.n0, by simp; omega, hs.nl, hs.z0, ?_, hs.zl⟩, hgl, hx⟩
  · have hl : (d.s1 ++ [t]).length = n1 + 1 := by simp [hn]
    show World.ownsRow _ _ _ _ _ (d.s1 ++ [t]).length (scs (d.s1 ++ [t]))
    rw [hl, scs_snoc]
    exact own_kept hw fun b e => hk b (fun e' => hgx ((by simpa [Value.ownBlock] using e : gg = b).trans e'))
  · intro b e e'
    have hbg : gg = b := by simpa [Value.ownBlock] using e'
    subst hbg
    rcases hat with h' | h'
    · exact h.own.p01 _ e h'
    · have := (h.own.o0.lt _ e).2; omega
  · intro b e e'
    have hbg : gg = b := by simpa [Value.ownBlock] using e
    subst hbg
    rcases hat with h' | h'
    · exact h.own.p1l _ h' e'
    · have := (h.own.ol.lt _ e').2; omega
  · exact h.rd.kept fun b hb => (hk b (by omega)).trans (hlow b (by omega) (by omega))
  · refine grown_set (a := w) ?_ (by omega) 1 _
    exact ⟨(hg.os.trans rfl).trans h.gr.os, (hg.tape.trans rfl).trans h.gr.tape, (hg.output.trans rfl).trans h.gr.output, Nat.le_trans h.gr.size (Nat.le_trans (by simp) hg.size), fun b hb hne => (hlow b (by omega) (by omega)).trans (h.gr.block b hb hne)⟩
  · intro s hs'
    rcases List.mem_append.1 hs' with h' | h'
    · exact hs.z1 s h'
    · obtain rfl := List.mem_singleton.1 h'; exact ht

/-- One late write more. -/
theorem LD.moreL {w wr w3 : World} {g x kk gg cap nl el : Nat} {u0 u1 : Value} {Ul : Option Addr} {d : DiskM} {o : Obj} {l : LateM} (h : LD w wr g x kk u0 u1 (.slice Ul nl el) d) (hn : d.late.length = nl) (ht : l.text.size ≤ 1048576)
    (hw : w3.ownsRow (w.heap.size + 1) 70 3 (.slice (some ⟨gg, 0, none⟩) (nl + 1) cap) (nl + 1) (lcs d.late ++ lc l)) (hg : (wr.alloc o).grownBy w3 (Value.slice Ul nl el).ownBlock) (hat : (Value.slice Ul nl el).ownBlock = some gg ∨ gg = wr.heap.size + 1) :
    Box w3 x [u0, u1, .slice Ul nl el] ∧ Fin w (w3.setCell ⟨x, 2, none⟩ (.slice (some ⟨gg, 0, none⟩) (nl + 1) cap)) g x kk u0 u1 (.slice (some ⟨gg, 0, none⟩) (nl + 1) cap) ⟨d.s0, d.s1, d.late ++ [l]⟩ := by
  have hx := h.hx
  have hgl := h.hg
  have hxl := h.xo.lt
  have hkeep : ∀ b, b < wr.heap.size → (Value.slice Ul nl el).ownBlock ≠ some b → w3.heap[b]? = wr.heap[b]? := fun b hb hne =>
    (hg.block b (by simp; omega) (fun e => hne e.symm)).trans (Below.heap_alloc wr o b hb)
  have hlow : ∀ b, b < w.heap.size + 1 → b < wr.heap.size → w3.heap[b]? = wr.heap[b]? := fun b hb hb2 => hkeep b hb2 (fun e => by have := (h.own.ol.lt b e).1; omega)
  have hgx : gg ≠ x := by
    rcases hat with e | e
    · intro e'; exact h.nx (Or.inr (Or.inr (by rw [e, e'])))
    · omega
  have o0 := own_kept h.own.o0 (w' := w3) fun b e => hkeep b (h.own.o0.lt b e).2 (fun e' => h.own.p0l b e e')
  have o1 := own_kept h.own.o1 (w' := w3) fun b e => hkeep b (h.own.o1.lt b e).2 (fun e' => h.own.p1l b e e')
  have hs := h.tiny.short
  have hnl := h.tiny.nl
  have hk : ∀ b, b ≠ x → (w3.setCell ⟨x, 2, none⟩ (.slice (some ⟨gg, 0, none⟩) (nl + 1) cap)).heap[b]? = w3.heap[b]? := fun b hb => Below.heap_setCell _ _ _ _ hb
  have hxo : Box w3 x [u0, u1, .slice Ul nl el] := h.xo.kept (hkeep x hxl (fun e => h.nx (Or.inr (Or.inr e))))
  have hwr : w.heap.size < wr.heap.size := h.xr.lt
  refine ⟨hxo, (h.xr.kept (hlow _ (by omega) hwr)).other (by simp; omega) _, hxo.set 2 _, ⟨own_kept o0 fun b e => hk b (fun e' => h.nx (Or.inl (e' ▸ e))), own_kept o1 fun b e => hk b (fun e' => h.nx (Or.inr (Or.inl (e' ▸ e)))), ?_, h.own.p01, ?_, ?_⟩, ?_, ?_, ⟨hs.n0, hs.n1, by simp; omega, hs.z0, hs.z1, ?_⟩, hgl, hx⟩
  · have hl : (d.late ++ [l]).length = nl + 1 := by simp [hn]
    show World.ownsRow _ _ _ _ _ (d.late ++ [l]).length (lcs (d.late ++ [l]))
    rw [hl, lcs_snoc]
    exact own_kept hw fun b e => hk b (fun e' => hgx ((by simpa [Value.ownBlock] using e : gg = b).trans e'))
  · intro b e e'
    have hbg : gg = b := by simpa [Value.ownBlock] using e'
    subst hbg
    rcases hat with h' | h'
    · exact h.own.p0l _ e h'
    · have := (h.own.o0.lt _ e).2; omega
  · intro b e e'
    have hbg : gg = b := by simpa [Value.ownBlock] using e'
    subst hbg
    rcases hat with h' | h'
    · exact h.own.p1l _ e h'
    · have := (h.own.o1.lt _ e).2; omega
  · exact h.rd.kept fun b hb => (hk b (by omega)).trans (hlow b (by omega) (by omega))
  · refine grown_set (a := w) ?_ (by omega) 2 _
    exact ⟨(hg.os.trans rfl).trans h.gr.os, (hg.tape.trans rfl).trans h.gr.tape, (hg.output.trans rfl).trans h.gr.output, Nat.le_trans h.gr.size (Nat.le_trans (by simp) hg.size), fun b hb hne => (hlow b (by omega) (by omega)).trans (h.gr.block b hb hne)⟩
  · intro s hs'
    rcases List.mem_append.1 hs' with h' | h'
    · exact hs.zl s h'
    · obtain rfl := List.mem_singleton.1 h'; exact ht
theorem heapN {w : World} {b : Nat} {o : Obj} (h : w.heap[b]? = some o) (o2 : Obj) : (w.alloc o2).heap[b]? = some o := (Below.heap_alloc w o2 b (Array.getElem?_eq_some_iff.1 h).1).trans h
theorem heapG {w w' : World} {b g : Nat} {o : Obj} (h : w.heap[b]? = some o) (hg : w.grownBy w' (some g)) (hne : b ≠ g) : w'.heap[b]? = some o := (hg.block b (Array.getElem?_eq_some_iff.1 h).1 (fun e => hne (Option.some.inj e))).trans h

/-- Behind the write of a round: the box N holds the disk written. -/
def Wrote (w : World) (g X k : Nat) (u0 u1 ul : Value) (d : DiskM) (s5 : Value) (wx : World) : Prop :=
  ∃ N s0 s1 sl r k2, s5 = .pointer (some ⟨N, 0, none⟩) ∧ k2 ≤ k + 9 ∧ Hid (LD w wx g X k2 u0 u1 ul d) ∧ Hid (Beside w wx X N s0 s1 sl r)

set_option maxHeartbeats 8000000 in
theorem l2Disk_any (g k : Nat) (w : World) (hr : Rd w g k) (hk : k ≤ 1000) :
    Calls Try.prog 26 #[.pointer (some ⟨g, 0, none⟩)] w (DrawnD w g) := by
  have hgl := hr.lt
  have HR := Lib.hid hr
  clear hr
  have hn0 := Below.new (w := w) (.cells #[.slice none 0 0, .slice none 0 0, .slice none 0 0] 27)
  have HR0 := Lib.hid (HR.out.below hn0)
  have X0 := Lib.hid (box_new w #[.slice none 0 0, .slice none 0 0, .slice none 0 0] 27)
  have G0 := Lib.hid (grown_below (World.grownBy.refl w (some g)) hn0)
  clear hn0 HR
  go_enter Try.func26, Try.ntmps26
  go_wp2_with fail
  refine (pick_op g k 6 _ HR0.out (by omega) (by omega) (by omega)).mono ?_
  rintro e w1 ⟨r, hr6, rfl, hg1, hr1⟩
  have X1 := Lib.hid (box_grownG X0.out hg1 (by omega))
  have G1 := Lib.hid (grown_trans G0.out hg1)
  have HR1 := Lib.hid hr1
  have hz1 : w.heap.size + 1 ≤ w1.heap.size := by have := hg1.size; simp at this; omega
  clear hg1 hr1 X0 G0 HR0
  go_wp2_with fail
  refine (DiskOpen_any (1 + (r : Int)) _ (by omega) (by omega)).mono ?_
  rintro e w2 ⟨u0, u1, ul, rfl, ho, hb⟩
  obtain ⟨U0, c0, U1, c1, Ul, cl, rfl, rfl, rfl⟩ := ho.forms
  have hn2 := Below.new (w := w2) (.cells #[.slice U0 (openM (1 + (r : Int))).s0.length c0, .slice U1 (openM (1 + (r : Int))).s1.length c1, .slice Ul (openM (1 + (r : Int))).late.length cl] 27)
  have L2 := Lib.hid (show LD w (w2.alloc (.cells #[.slice U0 (openM (1 + (r : Int))).s0.length c0, .slice U1 (openM (1 + (r : Int))).s1.length c1, .slice Ul (openM (1 + (r : Int))).late.length cl] 27)) g w2.heap.size (k + 1) (.slice U0 (openM (1 + (r : Int))).s0.length c0) (.slice U1 (openM (1 + (r : Int))).s1.length c1) (.slice Ul (openM (1 + (r : Int))).late.length cl) (openM (1 + (r : Int))) from
    ⟨(X1.out.below hb (by omega)).alloc _, box_new _ _ _, (ho.below hn2).base (by omega), ho.reads.low.past (Nat.le_refl _), by have := hb.size; omega, (HR1.out.below hb).below hn2, grown_below (grown_below G1.out hb) hn2, tiny_open (by omega), hgl⟩)
  clear ho hb hn2 X1 G1 HR1 hz1
  generalize openM (1 + (r : Int)) = d at L2 ⊢
  go_wp2_with fail
  refine (pick_op g (k + 1) 14 _ L2.out.rd (by omega) (by omega) (by omega)).mono ?_
  rintro e w3 ⟨r2, hr14, rfl, hg3, hr3⟩
  have L3 := Lib.hid (L2.out.grown hg3 hr3)
  clear hg3 hr3 L2
  generalize w2.heap.size = X at L3 ⊢
  go_wp2_with fail
  go_loopw [4] (fun i wr => ∃ (j kk : Nat) (d : DiskM) (u0 u1 ul : Value), j ≤ 13 ∧ i = .int .i64 (j : Int) ∧ kk + 40 * j ≤ k + 600 ∧ Hid (LD w wr g X kk u0 u1 ul d)) (fun i _ => (intOf i).toNat)
  case atStart => exact ⟨r2, k + 1 + 1, _, _, _, _, by omega, rfl, by omega, L3⟩
  case round =>
    clear L3
    obtain ⟨j, kk, d, u0, u1, ul, hj, rfl, hkk, L⟩ := hrel
    obtain ⟨A0, c0, A1, c1, Al, cl, rfl, rfl, rfl⟩ := L.out.own.forms
    by_cases hlt : 0 < j
    · have hj1 : (0 : Int) < (j : Int) := by omega
      go_upto_region 5 with fail
      go_cut [5] from 13 to 40 (fun s5 wx => Wrote w g X kk (.slice A0 d.s0.length c0) (.slice A1 d.s1.length c1) (.slice Al d.late.length cl) d s5 wx)
      case first =>
        have hL0 := LD.below L.out (Below.drew (Below.refl _ wr))
        refine wp_region_held_drew (S := fun w' => Box w' X [.slice A0 d.s0.length c0, .slice A1 d.s1.length c1, .slice Al d.late.length cl]) (by kernel_rfl) hL0.xo (fun hHeld => ?_)
        generalize wr.drew = wd at hHeld hL0 ⊢
        refine wpAnyH_take (i := 0) (v := ?_) rfl (by kernel_rfl) (by kernel_rfl) (by kernel_rfl) (fun _ _ _ h => h) (Or.inl ⟨by rfl, ?_⟩) (by assumption) ?_
        rotate_left
        · (intro w' hSw; obtain ⟨hx0, hx1, hx2⟩ := Box.three hSw; go_simp; try with_reducible rfl)
        try simp only [Act.put]
        refine wpAnyH_take (i := 1) (v := ?_) rfl (by kernel_rfl) (by kernel_rfl) (by kernel_rfl) (fun _ _ _ h => h) (Or.inl ⟨by rfl, ?_⟩) (by assumption) ?_
        rotate_left
        · (intro w' hSw; obtain ⟨hx0, hx1, hx2⟩ := Box.three hSw; go_simp; try with_reducible rfl)
        try simp only [Act.put]
        refine wpAnyH_take (i := 3) (v := ?_) rfl (by kernel_rfl) (by kernel_rfl) (by kernel_rfl) (fun _ _ _ h => h) (Or.inl ⟨by rfl, ?_⟩) (by assumption) ?_
        rotate_left
        · (intro w' hSw; obtain ⟨hx0, hx1, hx2⟩ := Box.three hSw; go_simp; try with_reducible rfl)
        try simp only [Act.put]
        refine wpAnyH_take (i := 5) (v := ?_) rfl (by kernel_rfl) (by kernel_rfl) (by kernel_rfl) (fun _ _ _ h => h) (Or.inl ⟨by rfl, ?_⟩) (by assumption) ?_
        rotate_left
        · (intro w' hSw; obtain ⟨hx0, hx1, hx2⟩ := Box.three hSw; go_simp; try with_reducible rfl)
        try simp only [Act.put]
        refine wpAnyH_ready (rs := [2, 11]) (by kernel_rfl) (by simp) ?_
        refine AllReadyH.cons rfl (fun K hK => ?_) (AllReadyH.cons rfl (fun K hK => ?_) (AllReadyH.nil))
        · have hway : True := trivial
          go_simp
          go_at_call 28
          refine (pick_2 g (kk) _ (LD.rd hL0) (by omega)).mono ?_
          rintro e wt1 ⟨ra, hra, rfl, hg1, hR1⟩
          have hL1 := LD.grown hL0 hg1 hR1
          go_wp2_with fail
          refine hK.out _ _ (LD.xo hL1) (fun hHeld1 => ?_)
          clear hK K
          try simp only [Act.put]
          refine wpAnyH_ready (rs := [4, 11]) (by kernel_rfl) (by simp) ?_
          refine AllReadyH.cons rfl (fun K hK => ?_) (AllReadyH.cons rfl (fun K hK => ?_) (AllReadyH.nil))
          · have hway : True := trivial
            go_simp
            go_at_call 28
            refine (pick_6 g (kk + 1) _ (LD.rd hL1) (by omega)).mono ?_
            rintro e wt2 ⟨rb, hrb, rfl, hg2, hR2⟩
            have hL2 := LD.grown hL1 hg2 hR2
            go_wp2_with fail
            refine hK.out _ _ (LD.xo hL2) (fun hHeld2 => ?_)
            clear hK K
            try simp only [Act.put]
            refine wpAnyH_ready (rs := [6, 11]) (by kernel_rfl) (by simp) ?_
            refine AllReadyH.cons rfl (fun K hK => ?_) (AllReadyH.cons rfl (fun K hK => ?_) (AllReadyH.nil))
            · have hway : True := trivial
              go_simp
              go_at_call 30
              refine (l1Text_any g (kk + 1 + 1) _ (LD.rd hL2) (by omega)).mono ?_
              rintro e wt3 ⟨tx, kc, htx, hkc, rfl, hg3, hR3⟩
              have hL3 := LD.grown hL2 hg3 hR3
              go_wp2_with fail
              refine hK.out _ _ (LD.xo hL3) (fun hHeld3 => ?_)
              clear hK K
              try simp only [Act.put]
              refine wpAnyH_ready (rs := [7, 11]) (by kernel_rfl) (by simp) ?_
              refine AllReadyH.cons rfl (fun K hK => ?_) (AllReadyH.cons rfl (fun K hK => ?_) (AllReadyH.nil))
              · have hway : True := trivial
                go_simp
                go_at_call 9
                refine (DiskWrite_any _ _ _ d _ _ tx _ (LD.own hL3).reads L.out.tiny.short (by unfold maxLen; omega)).mono ?_
                rintro e wt4 ⟨s0, s1, sl, rfl, hso, hb4⟩
                have hL4 := LD.below hL3 hb4
                have hO4 := DiskOwn.base hso (show w.heap.size + 1 ≤ _ from Nat.le_trans (LD.hx hL3) (Nat.le_of_lt (Box.lt (LD.xo hL3))))
                have hsx := DiskOwn.past hso (Box.lt (LD.xo hL3))
                have hT := tiny_write (side := (ra : Int)) (at_ := (rb : Int)) (text := tx) (by omega) L.out.tiny
                obtain ⟨S0, m0, S1, m1, Sl_, ml, rfl, rfl, rfl⟩ := hso.forms
                go_wp2_with fail
                refine hK.out _ _ (LD.xo hL4) (fun hHeld4 => ?_)
                clear hK K
                try simp only [Act.put]
                refine wpAnyH_take (i := 8) (v := ?_) rfl (by kernel_rfl) (by kernel_rfl) (by kernel_rfl) (fun _ _ _ h => h) (Or.inl ⟨by rfl, ?_⟩) (by assumption) ?_
                rotate_left
                · (intro w' hSw; obtain ⟨hx0, hx1, hx2⟩ := Box.three hSw; go_simp; try with_reducible rfl)
                try simp only [Act.put]
                refine wpAnyH_take (i := 9) (v := ?_) rfl (by kernel_rfl) (by kernel_rfl) (by kernel_rfl) (fun _ _ _ h => h) (Or.inl ⟨by rfl, ?_⟩) (by assumption) ?_
                rotate_left
                · (intro w' hSw; obtain ⟨hx0, hx1, hx2⟩ := Box.three hSw; go_simp; try with_reducible rfl)
                try simp only [Act.put]
                refine wpAnyH_take (i := 10) (v := ?_) rfl (by kernel_rfl) (by kernel_rfl) (by kernel_rfl) (fun _ _ _ h => h) (Or.inl ⟨by rfl, ?_⟩) (by assumption) ?_
                rotate_left
                · (intro w' hSw; obtain ⟨hx0, hx1, hx2⟩ := Box.three hSw; go_simp; try with_reducible rfl)
                try simp only [Act.put]
                refine wpAnyH_ready (rs := [11]) (by kernel_rfl) (by simp) ?_
                refine AllReadyH.cons rfl (fun K hK => ?_) (AllReadyH.nil)
                have hN5 := box_new wt4 #[.slice none 0 0, .slice none 0 0, .slice none 0 0] 27
                have hnw5 := Below.new (w := wt4) (.cells #[.slice none 0 0, .slice none 0 0, .slice none 0 0] 27)
                have hL5 := LD.below hL4 hnw5
                have hgN : X < wt4.heap.size ∧ g < wt4.heap.size := ⟨Box.lt (LD.xo hL4), (LD.rd hL4).lt⟩
                have hun := (DiskR.low (DiskOwn.reads (LD.own hL4))).past (Nat.le_refl _)
                have hnx := (DiskR.low (DiskOwn.reads hO4)).past (Nat.le_refl _)
                have hO5 := DiskOwn.below hO4 hnw5
                go_simp
                refine hK.out _ _ (LD.xo hL5) (fun hHeld5 => ?_)
                clear hK K
                try simp only [Act.put]
                clear hnw5
                generalize wt4.alloc (.cells #[.slice none 0 0, .slice none 0 0, .slice none 0 0] 27) = wa5 at hHeld5 hN5 hL5 hO5 ⊢
                refine wpAnyH_ready (rs := [12]) (by kernel_rfl) (by simp) ?_
                refine AllReadyH.cons rfl (fun K hK => ?_) (AllReadyH.nil)
                obtain ⟨n0, n1, n2⟩ := Box.three hN5
                have q0 := Box.open_ hN5 0
                have q1 := Box.open_ hN5 1
                have q2 := Box.open_ hN5 2
                have hR := stored hL5 hO5 hsx hnx hN5 hgN hT
                go_simp
                refine hK.out _ _ (LD.xo hR.1) (fun hHeld6 => ?_)
                clear hK K
                try simp only [Act.put]
                refine wpAnyH_take (i := 13) (v := ?_) rfl (by kernel_rfl) (by kernel_rfl) (by kernel_rfl) (fun _ _ _ h => h) (Or.inl ⟨by rfl, ?_⟩) (by assumption) ?_
                rotate_left
                · (intro w' hSw; obtain ⟨hx0, hx1, hx2⟩ := Box.three hSw; go_simp; try with_reducible rfl)
                try simp only [Act.put]
                refine wpAnyH_done (by kernel_rfl) ?_ _
                go_simp
                go_wp2_with fail
                go_meet
                exact ⟨_, _, _, _, _, _, rfl, by omega, Lib.hid hR.1, Lib.hid hR.2⟩
              · have hway : True := trivial
                have hN4 := box_new wt3 #[.slice none 0 0, .slice none 0 0, .slice none 0 0] 27
                have hnw4 := Below.new (w := wt3) (.cells #[.slice none 0 0, .slice none 0 0, .slice none 0 0] 27)
                have hL4 := LD.below hL3 hnw4
                have hgN : X < wt3.heap.size ∧ g < wt3.heap.size := ⟨Box.lt (LD.xo hL3), (LD.rd hL3).lt⟩
                have hun := (DiskR.low (DiskOwn.reads (LD.own hL3))).past (Nat.le_refl _)
                go_simp
                refine hK.out _ _ (LD.xo hL4) (fun hHeld4 => ?_)
                clear hK K
                try simp only [Act.put]
                clear hnw4
                generalize wt3.alloc (.cells #[.slice none 0 0, .slice none 0 0, .slice none 0 0] 27) = wa4 at hHeld4 hN4 hL4 ⊢
                refine wpAnyH_ready (rs := [7]) (by kernel_rfl) (by simp) ?_
                refine AllReadyH.cons rfl (fun K hK => ?_) (AllReadyH.nil)
                go_simp
                go_at_call 9
                refine (DiskWrite_any _ _ _ d _ _ tx _ (LD.own hL4).reads L.out.tiny.short (by unfold maxLen; omega)).mono ?_
                rintro e wt5 ⟨s0, s1, sl, rfl, hso, hb5⟩
                have hL5 := LD.below hL4 hb5
                have hO5 := DiskOwn.base hso (show w.heap.size + 1 ≤ _ from Nat.le_trans (LD.hx hL4) (Nat.le_of_lt (Box.lt (LD.xo hL4))))
                have hsx := DiskOwn.past hso (Box.lt (LD.xo hL4))
                have hT := tiny_write (side := (ra : Int)) (at_ := (rb : Int)) (text := tx) (by omega) L.out.tiny
                have hN5 := Box.below hN4 hb5 (Box.lt hN4)
                have hnx := DiskOwn.past hso (Box.lt hN4)
                obtain ⟨S0, m0, S1, m1, Sl_, ml, rfl, rfl, rfl⟩ := hso.forms
                go_wp2_with fail
                refine hK.out _ _ (LD.xo hL5) (fun hHeld5 => ?_)
                clear hK K
                try simp only [Act.put]
                refine wpAnyH_take (i := 8) (v := ?_) rfl (by kernel_rfl) (by kernel_rfl) (by kernel_rfl) (fun _ _ _ h => h) (Or.inl ⟨by rfl, ?_⟩) (by assumption) ?_
                rotate_left
                · (intro w' hSw; obtain ⟨hx0, hx1, hx2⟩ := Box.three hSw; go_simp; try with_reducible rfl)
                try simp only [Act.put]
                refine wpAnyH_take (i := 9) (v := ?_) rfl (by kernel_rfl) (by kernel_rfl) (by kernel_rfl) (fun _ _ _ h => h) (Or.inl ⟨by rfl, ?_⟩) (by assumption) ?_
                rotate_left
                · (intro w' hSw; obtain ⟨hx0, hx1, hx2⟩ := Box.three hSw; go_simp; try with_reducible rfl)
                try simp only [Act.put]
                refine wpAnyH_take (i := 10) (v := ?_) rfl (by kernel_rfl) (by kernel_rfl) (by kernel_rfl) (fun _ _ _ h => h) (Or.inl ⟨by rfl, ?_⟩) (by assumption) ?_
                rotate_left
                · (intro w' hSw; obtain ⟨hx0, hx1, hx2⟩ := Box.three hSw; go_simp; try with_reducible rfl)
                try simp only [Act.put]
                refine wpAnyH_ready (rs := [12]) (by kernel_rfl) (by simp) ?_
                refine AllReadyH.cons rfl (fun K hK => ?_) (AllReadyH.nil)
                obtain ⟨n0, n1, n2⟩ := Box.three hN5
                have q0 := Box.open_ hN5 0
                have q1 := Box.open_ hN5 1
                have q2 := Box.open_ hN5 2
                have hR := stored hL5 hO5 hsx hnx hN5 hgN hT
                go_simp
                refine hK.out _ _ (LD.xo hR.1) (fun hHeld6 => ?_)
                clear hK K
                try simp only [Act.put]
                refine wpAnyH_take (i := 13) (v := ?_) rfl (by kernel_rfl) (by kernel_rfl) (by kernel_rfl) (fun _ _ _ h => h) (Or.inl ⟨by rfl, ?_⟩) (by assumption) ?_
                rotate_left
                · (intro w' hSw; obtain ⟨hx0, hx1, hx2⟩ := Box.three hSw; go_simp; try with_reducible rfl)
                try simp only [Act.put]
                refine wpAnyH_done (by kernel_rfl) ?_ _
                go_simp
                go_wp2_with fail
                go_meet
                exact ⟨_, _, _, _, _, _, rfl, by omega, Lib.hid hR.1, Lib.hid hR.2⟩
            · have hway : True := trivial
              have hN3 := box_new wt2 #[.slice none 0 0, .slice none 0 0, .slice none 0 0] 27
              have hnw3 := Below.new (w := wt2) (.cells #[.slice none 0 0, .slice none 0 0, .slice none 0 0] 27)
              have hL3 := LD.below hL2 hnw3
              have hgN : X < wt2.heap.size ∧ g < wt2.heap.size := ⟨Box.lt (LD.xo hL2), (LD.rd hL2).lt⟩
              have hun := (DiskR.low (DiskOwn.reads (LD.own hL2))).past (Nat.le_refl _)
              go_simp
              refine hK.out _ _ (LD.xo hL3) (fun hHeld3 => ?_)
              clear hK K
              try simp only [Act.put]
              clear hnw3
              generalize wt2.alloc (.cells #[.slice none 0 0, .slice none 0 0, .slice none 0 0] 27) = wa3 at hHeld3 hN3 hL3 ⊢
              refine wpAnyH_ready (rs := [6]) (by kernel_rfl) (by simp) ?_
              refine AllReadyH.cons rfl (fun K hK => ?_) (AllReadyH.nil)
              go_simp
              go_at_call 30
              refine (l1Text_any g (kk + 1 + 1) _ (LD.rd hL3) (by omega)).mono ?_
              rintro e wt4 ⟨tx, kc, htx, hkc, rfl, hg4, hR4⟩
              have hL4 := LD.grown hL3 hg4 hR4
              have hN4 := box_grownG hN3 hg4 (by have := LD.rd hL4 |>.lt; have := hgN; omega)
              go_wp2_with fail
              refine hK.out _ _ (LD.xo hL4) (fun hHeld4 => ?_)
              clear hK K
              try simp only [Act.put]
              refine wpAnyH_ready (rs := [7]) (by kernel_rfl) (by simp) ?_
              refine AllReadyH.cons rfl (fun K hK => ?_) (AllReadyH.nil)
              go_simp
              go_at_call 9
              refine (DiskWrite_any _ _ _ d _ _ tx _ (LD.own hL4).reads L.out.tiny.short (by unfold maxLen; omega)).mono ?_
              rintro e wt5 ⟨s0, s1, sl, rfl, hso, hb5⟩
              have hL5 := LD.below hL4 hb5
              have hO5 := DiskOwn.base hso (show w.heap.size + 1 ≤ _ from Nat.le_trans (LD.hx hL4) (Nat.le_of_lt (Box.lt (LD.xo hL4))))
              have hsx := DiskOwn.past hso (Box.lt (LD.xo hL4))
              have hT := tiny_write (side := (ra : Int)) (at_ := (rb : Int)) (text := tx) (by omega) L.out.tiny
              have hN5 := Box.below hN4 hb5 (Box.lt hN4)
              have hnx := DiskOwn.past hso (Box.lt hN4)
              obtain ⟨S0, m0, S1, m1, Sl_, ml, rfl, rfl, rfl⟩ := hso.forms
              go_wp2_with fail
              refine hK.out _ _ (LD.xo hL5) (fun hHeld5 => ?_)
              clear hK K
              try simp only [Act.put]
              refine wpAnyH_take (i := 8) (v := ?_) rfl (by kernel_rfl) (by kernel_rfl) (by kernel_rfl) (fun _ _ _ h => h) (Or.inl ⟨by rfl, ?_⟩) (by assumption) ?_
              rotate_left
              · (intro w' hSw; obtain ⟨hx0, hx1, hx2⟩ := Box.three hSw; go_simp; try with_reducible rfl)
              try simp only [Act.put]
              refine wpAnyH_take (i := 9) (v := ?_) rfl (by kernel_rfl) (by kernel_rfl) (by kernel_rfl) (fun _ _ _ h => h) (Or.inl ⟨by rfl, ?_⟩) (by assumption) ?_
              rotate_left
              · (intro w' hSw; obtain ⟨hx0, hx1, hx2⟩ := Box.three hSw; go_simp; try with_reducible rfl)
              try simp only [Act.put]
              refine wpAnyH_take (i := 10) (v := ?_) rfl (by kernel_rfl) (by kernel_rfl) (by kernel_rfl) (fun _ _ _ h => h) (Or.inl ⟨by rfl, ?_⟩) (by assumption) ?_
              rotate_left
              · (intro w' hSw; obtain ⟨hx0, hx1, hx2⟩ := Box.three hSw; go_simp; try with_reducible rfl)
              try simp only [Act.put]
              refine wpAnyH_ready (rs := [12]) (by kernel_rfl) (by simp) ?_
              refine AllReadyH.cons rfl (fun K hK => ?_) (AllReadyH.nil)
              obtain ⟨n0, n1, n2⟩ := Box.three hN5
              have q0 := Box.open_ hN5 0
              have q1 := Box.open_ hN5 1
              have q2 := Box.open_ hN5 2
              have hR := stored hL5 hO5 hsx hnx hN5 hgN hT
              go_simp
              refine hK.out _ _ (LD.xo hR.1) (fun hHeld6 => ?_)
              clear hK K
              try simp only [Act.put]
              refine wpAnyH_take (i := 13) (v := ?_) rfl (by kernel_rfl) (by kernel_rfl) (by kernel_rfl) (fun _ _ _ h => h) (Or.inl ⟨by rfl, ?_⟩) (by assumption) ?_
              rotate_left
              · (intro w' hSw; obtain ⟨hx0, hx1, hx2⟩ := Box.three hSw; go_simp; try with_reducible rfl)
              try simp only [Act.put]
              refine wpAnyH_done (by kernel_rfl) ?_ _
              go_simp
              go_wp2_with fail
              go_meet
              exact ⟨_, _, _, _, _, _, rfl, by omega, Lib.hid hR.1, Lib.hid hR.2⟩
          · have hway : True := trivial
            have hN2 := box_new wt1 #[.slice none 0 0, .slice none 0 0, .slice none 0 0] 27
            have hnw2 := Below.new (w := wt1) (.cells #[.slice none 0 0, .slice none 0 0, .slice none 0 0] 27)
            have hL2 := LD.below hL1 hnw2
            have hgN : X < wt1.heap.size ∧ g < wt1.heap.size := ⟨Box.lt (LD.xo hL1), (LD.rd hL1).lt⟩
            have hun := (DiskR.low (DiskOwn.reads (LD.own hL1))).past (Nat.le_refl _)
            go_simp
            refine hK.out _ _ (LD.xo hL2) (fun hHeld2 => ?_)
            clear hK K
            try simp only [Act.put]
            clear hnw2
            generalize wt1.alloc (.cells #[.slice none 0 0, .slice none 0 0, .slice none 0 0] 27) = wa2 at hHeld2 hN2 hL2 ⊢
            refine wpAnyH_ready (rs := [4]) (by kernel_rfl) (by simp) ?_
            refine AllReadyH.cons rfl (fun K hK => ?_) (AllReadyH.nil)
            go_simp
            go_at_call 28
            refine (pick_6 g (kk + 1) _ (LD.rd hL2) (by omega)).mono ?_
            rintro e wt3 ⟨rb, hrb, rfl, hg3, hR3⟩
            have hL3 := LD.grown hL2 hg3 hR3
            have hN3 := box_grownG hN2 hg3 (by have := LD.rd hL3 |>.lt; have := hgN; omega)
            go_wp2_with fail
            refine hK.out _ _ (LD.xo hL3) (fun hHeld3 => ?_)
            clear hK K
            try simp only [Act.put]
            refine wpAnyH_ready (rs := [6]) (by kernel_rfl) (by simp) ?_
            refine AllReadyH.cons rfl (fun K hK => ?_) (AllReadyH.nil)
            go_simp
            go_at_call 30
            refine (l1Text_any g (kk + 1 + 1) _ (LD.rd hL3) (by omega)).mono ?_
            rintro e wt4 ⟨tx, kc, htx, hkc, rfl, hg4, hR4⟩
            have hL4 := LD.grown hL3 hg4 hR4
            have hN4 := box_grownG hN3 hg4 (by have := LD.rd hL4 |>.lt; have := hgN; omega)
            go_wp2_with fail
            refine hK.out _ _ (LD.xo hL4) (fun hHeld4 => ?_)
            clear hK K
            try simp only [Act.put]
            refine wpAnyH_ready (rs := [7]) (by kernel_rfl) (by simp) ?_
            refine AllReadyH.cons rfl (fun K hK => ?_) (AllReadyH.nil)
            go_simp
            go_at_call 9
            refine (DiskWrite_any _ _ _ d _ _ tx _ (LD.own hL4).reads L.out.tiny.short (by unfold maxLen; omega)).mono ?_
            rintro e wt5 ⟨s0, s1, sl, rfl, hso, hb5⟩
            have hL5 := LD.below hL4 hb5
            have hO5 := DiskOwn.base hso (show w.heap.size + 1 ≤ _ from Nat.le_trans (LD.hx hL4) (Nat.le_of_lt (Box.lt (LD.xo hL4))))
            have hsx := DiskOwn.past hso (Box.lt (LD.xo hL4))
            have hT := tiny_write (side := (ra : Int)) (at_ := (rb : Int)) (text := tx) (by omega) L.out.tiny
            have hN5 := Box.below hN4 hb5 (Box.lt hN4)
            have hnx := DiskOwn.past hso (Box.lt hN4)
            obtain ⟨S0, m0, S1, m1, Sl_, ml, rfl, rfl, rfl⟩ := hso.forms
            go_wp2_with fail
            refine hK.out _ _ (LD.xo hL5) (fun hHeld5 => ?_)
            clear hK K
            try simp only [Act.put]
            refine wpAnyH_take (i := 8) (v := ?_) rfl (by kernel_rfl) (by kernel_rfl) (by kernel_rfl) (fun _ _ _ h => h) (Or.inl ⟨by rfl, ?_⟩) (by assumption) ?_
            rotate_left
            · (intro w' hSw; obtain ⟨hx0, hx1, hx2⟩ := Box.three hSw; go_simp; try with_reducible rfl)
            try simp only [Act.put]
            refine wpAnyH_take (i := 9) (v := ?_) rfl (by kernel_rfl) (by kernel_rfl) (by kernel_rfl) (fun _ _ _ h => h) (Or.inl ⟨by rfl, ?_⟩) (by assumption) ?_
            rotate_left
            · (intro w' hSw; obtain ⟨hx0, hx1, hx2⟩ := Box.three hSw; go_simp; try with_reducible rfl)
            try simp only [Act.put]
            refine wpAnyH_take (i := 10) (v := ?_) rfl (by kernel_rfl) (by kernel_rfl) (by kernel_rfl) (fun _ _ _ h => h) (Or.inl ⟨by rfl, ?_⟩) (by assumption) ?_
            rotate_left
            · (intro w' hSw; obtain ⟨hx0, hx1, hx2⟩ := Box.three hSw; go_simp; try with_reducible rfl)
            try simp only [Act.put]
            refine wpAnyH_ready (rs := [12]) (by kernel_rfl) (by simp) ?_
            refine AllReadyH.cons rfl (fun K hK => ?_) (AllReadyH.nil)
            obtain ⟨n0, n1, n2⟩ := Box.three hN5
            have q0 := Box.open_ hN5 0
            have q1 := Box.open_ hN5 1
            have q2 := Box.open_ hN5 2
            have hR := stored hL5 hO5 hsx hnx hN5 hgN hT
            go_simp
            refine hK.out _ _ (LD.xo hR.1) (fun hHeld6 => ?_)
            clear hK K
            try simp only [Act.put]
            refine wpAnyH_take (i := 13) (v := ?_) rfl (by kernel_rfl) (by kernel_rfl) (by kernel_rfl) (fun _ _ _ h => h) (Or.inl ⟨by rfl, ?_⟩) (by assumption) ?_
            rotate_left
            · (intro w' hSw; obtain ⟨hx0, hx1, hx2⟩ := Box.three hSw; go_simp; try with_reducible rfl)
            try simp only [Act.put]
            refine wpAnyH_done (by kernel_rfl) ?_ _
            go_simp
            go_wp2_with fail
            go_meet
            exact ⟨_, _, _, _, _, _, rfl, by omega, Lib.hid hR.1, Lib.hid hR.2⟩
        · have hway : True := trivial
          have hN1 := box_new wd #[.slice none 0 0, .slice none 0 0, .slice none 0 0] 27
          have hnw1 := Below.new (w := wd) (.cells #[.slice none 0 0, .slice none 0 0, .slice none 0 0] 27)
          have hL1 := LD.below hL0 hnw1
          have hgN : X < wd.heap.size ∧ g < wd.heap.size := ⟨Box.lt (LD.xo hL0), (LD.rd hL0).lt⟩
          have hun := (DiskR.low (DiskOwn.reads (LD.own hL0))).past (Nat.le_refl _)
          go_simp
          refine hK.out _ _ (LD.xo hL1) (fun hHeld1 => ?_)
          clear hK K
          try simp only [Act.put]
          clear hnw1
          generalize wd.alloc (.cells #[.slice none 0 0, .slice none 0 0, .slice none 0 0] 27) = wa1 at hHeld1 hN1 hL1 ⊢
          refine wpAnyH_ready (rs := [2]) (by kernel_rfl) (by simp) ?_
          refine AllReadyH.cons rfl (fun K hK => ?_) (AllReadyH.nil)
          go_simp
          go_at_call 28
          refine (pick_2 g (kk) _ (LD.rd hL1) (by omega)).mono ?_
          rintro e wt2 ⟨ra, hra, rfl, hg2, hR2⟩
          have hL2 := LD.grown hL1 hg2 hR2
          have hN2 := box_grownG hN1 hg2 (by have := LD.rd hL2 |>.lt; have := hgN; omega)
          go_wp2_with fail
          refine hK.out _ _ (LD.xo hL2) (fun hHeld2 => ?_)
          clear hK K
          try simp only [Act.put]
          refine wpAnyH_ready (rs := [4]) (by kernel_rfl) (by simp) ?_
          refine AllReadyH.cons rfl (fun K hK => ?_) (AllReadyH.nil)
          go_simp
          go_at_call 28
          refine (pick_6 g (kk + 1) _ (LD.rd hL2) (by omega)).mono ?_
          rintro e wt3 ⟨rb, hrb, rfl, hg3, hR3⟩
          have hL3 := LD.grown hL2 hg3 hR3
          have hN3 := box_grownG hN2 hg3 (by have := LD.rd hL3 |>.lt; have := hgN; omega)
          go_wp2_with fail
          refine hK.out _ _ (LD.xo hL3) (fun hHeld3 => ?_)
          clear hK K
          try simp only [Act.put]
          refine wpAnyH_ready (rs := [6]) (by kernel_rfl) (by simp) ?_
          refine AllReadyH.cons rfl (fun K hK => ?_) (AllReadyH.nil)
          go_simp
          go_at_call 30
          refine (l1Text_any g (kk + 1 + 1) _ (LD.rd hL3) (by omega)).mono ?_
          rintro e wt4 ⟨tx, kc, htx, hkc, rfl, hg4, hR4⟩
          have hL4 := LD.grown hL3 hg4 hR4
          have hN4 := box_grownG hN3 hg4 (by have := LD.rd hL4 |>.lt; have := hgN; omega)
          go_wp2_with fail
          refine hK.out _ _ (LD.xo hL4) (fun hHeld4 => ?_)
          clear hK K
          try simp only [Act.put]
          refine wpAnyH_ready (rs := [7]) (by kernel_rfl) (by simp) ?_
          refine AllReadyH.cons rfl (fun K hK => ?_) (AllReadyH.nil)
          go_simp
          go_at_call 9
          refine (DiskWrite_any _ _ _ d _ _ tx _ (LD.own hL4).reads L.out.tiny.short (by unfold maxLen; omega)).mono ?_
          rintro e wt5 ⟨s0, s1, sl, rfl, hso, hb5⟩
          have hL5 := LD.below hL4 hb5
          have hO5 := DiskOwn.base hso (show w.heap.size + 1 ≤ _ from Nat.le_trans (LD.hx hL4) (Nat.le_of_lt (Box.lt (LD.xo hL4))))
          have hsx := DiskOwn.past hso (Box.lt (LD.xo hL4))
          have hT := tiny_write (side := (ra : Int)) (at_ := (rb : Int)) (text := tx) (by omega) L.out.tiny
          have hN5 := Box.below hN4 hb5 (Box.lt hN4)
          have hnx := DiskOwn.past hso (Box.lt hN4)
          obtain ⟨S0, m0, S1, m1, Sl_, ml, rfl, rfl, rfl⟩ := hso.forms
          go_wp2_with fail
          refine hK.out _ _ (LD.xo hL5) (fun hHeld5 => ?_)
          clear hK K
          try simp only [Act.put]
          refine wpAnyH_take (i := 8) (v := ?_) rfl (by kernel_rfl) (by kernel_rfl) (by kernel_rfl) (fun _ _ _ h => h) (Or.inl ⟨by rfl, ?_⟩) (by assumption) ?_
          rotate_left
          · (intro w' hSw; obtain ⟨hx0, hx1, hx2⟩ := Box.three hSw; go_simp; try with_reducible rfl)
          try simp only [Act.put]
          refine wpAnyH_take (i := 9) (v := ?_) rfl (by kernel_rfl) (by kernel_rfl) (by kernel_rfl) (fun _ _ _ h => h) (Or.inl ⟨by rfl, ?_⟩) (by assumption) ?_
          rotate_left
          · (intro w' hSw; obtain ⟨hx0, hx1, hx2⟩ := Box.three hSw; go_simp; try with_reducible rfl)
          try simp only [Act.put]
          refine wpAnyH_take (i := 10) (v := ?_) rfl (by kernel_rfl) (by kernel_rfl) (by kernel_rfl) (fun _ _ _ h => h) (Or.inl ⟨by rfl, ?_⟩) (by assumption) ?_
          rotate_left
          · (intro w' hSw; obtain ⟨hx0, hx1, hx2⟩ := Box.three hSw; go_simp; try with_reducible rfl)
          try simp only [Act.put]
          refine wpAnyH_ready (rs := [12]) (by kernel_rfl) (by simp) ?_
          refine AllReadyH.cons rfl (fun K hK => ?_) (AllReadyH.nil)
          obtain ⟨n0, n1, n2⟩ := Box.three hN5
          have q0 := Box.open_ hN5 0
          have q1 := Box.open_ hN5 1
          have q2 := Box.open_ hN5 2
          have hR := stored hL5 hO5 hsx hnx hN5 hgN hT
          go_simp
          refine hK.out _ _ (LD.xo hR.1) (fun hHeld6 => ?_)
          clear hK K
          try simp only [Act.put]
          refine wpAnyH_take (i := 13) (v := ?_) rfl (by kernel_rfl) (by kernel_rfl) (by kernel_rfl) (fun _ _ _ h => h) (Or.inl ⟨by rfl, ?_⟩) (by assumption) ?_
          rotate_left
          · (intro w' hSw; obtain ⟨hx0, hx1, hx2⟩ := Box.three hSw; go_simp; try with_reducible rfl)
          try simp only [Act.put]
          refine wpAnyH_done (by kernel_rfl) ?_ _
          go_simp
          go_wp2_with fail
          go_meet
          exact ⟨_, _, _, _, _, _, rfl, by omega, Lib.hid hR.1, Lib.hid hR.2⟩
      case rest =>
      obtain ⟨N, s0, s1, sl, d2, k2, rfl, hk2, L5, R5⟩ := hcut
      revert L5 R5
      generalize wc = w5
      intro L5 R5
      obtain ⟨B0, e0, B1, e1, Bl, el, rfl, rfl, rfl⟩ := R5.out.own.forms
      obtain ⟨n0, n1, n2⟩ := R5.out.box.three
      obtain ⟨x0, x1, x2⟩ := L5.out.xo.three
      have q0 := L5.out.xo.open_ 0
      have q1 := L5.out.xo.open_ 1
      have q2 := L5.out.xo.open_ 2
      have hne := R5.out.ne
      have L6 := Lib.hid (LD.put L5.out R5.out.own R5.out.nx R5.out.tiny)
      go_wp2_with fail
      generalize ((w5.setCell ⟨X, 0, none⟩ (.slice B0 d2.s0.length e0)).setCell ⟨X, 1, none⟩ (.slice B1 d2.s1.length e1)).setCell ⟨X, 2, none⟩ (.slice Bl d2.late.length el) = w6 at L6 ⊢
      clear n0 n1 n2 x0 x1 x2 q0 q1 q2 hne L5 R5 L
      refine (pick_8 g k2 _ L6.out.rd (by omega)).mono ?_
      rintro e w7 ⟨r8, hr8, rfl, hg7, hr7⟩
      have L7 := Lib.hid (L6.out.grown hg7 hr7)
      clear hg7 hr7 L6
      obtain ⟨x0, x1, x2⟩ := L7.out.xo.three
      have q0 := L7.out.xo.open_ 0
      have q1 := L7.out.xo.open_ 1
      have q2 := L7.out.xo.open_ 2
      by_cases h0 : r8 = 0
      · subst h0
        go_wp2_with fail
        refine (DiskFlush_any _ _ _ d2 _ L7.out.own.reads L7.out.tiny.short).mono ?_
        rintro e w8 ⟨s0, s1, sl, rfl, hso, hb⟩
        have hL := LD.below L7.out hb
        have hO := DiskOwn.base hso (show w.heap.size + 1 ≤ _ from Nat.le_trans L7.out.hx (Nat.le_of_lt (Box.lt L7.out.xo)))
        have hsx := DiskOwn.past hso (Box.lt L7.out.xo)
        obtain ⟨S0, m0, S1, m1, Sl_, ml, rfl, rfl, rfl⟩ := hso.forms
        have L8 := Lib.hid (LD.put hL hO hsx (tiny_flush L7.out.tiny))
        obtain ⟨p0, p1, p2⟩ := hL.xo.three
        have t0 := hL.xo.open_ 0
        have t1 := hL.xo.open_ 1
        have t2 := hL.xo.open_ 2
        clear hso hb hO hsx x0 x1 x2 q0 q1 q2 L7
        go_wp2
        go_roundw
        case rel => exact ⟨j - 1, k2 + 1, _, _, _, _, by omega, by go_num, by omega, L8⟩
        case measure => simp [intOf]; omega
      by_cases h1 : r8 = 1
      · subst h1
        clear x0 x1 x2 q0 q1 q2
        go_upto_region 11 with fail
        have hL0 := LD.below L7.out (Below.drew (Below.refl _ w7))
        refine wp_region_held_drew (S := fun _ => True) (by kernel_rfl) trivial (fun hHeld => ?_)
        generalize w7.drew = wd at hL0 ⊢
        refine wpAnyH_take (i := 1) (v := ?_) rfl (by kernel_rfl) (by kernel_rfl) (by kernel_rfl) (fun _ _ _ h => h) (Or.inl ⟨by rfl, ?_⟩) (by assumption) ?_
        rotate_left
        · (intro w' hSw; go_simp; try with_reducible rfl)
        try simp only [Act.put]
        refine wpAnyH_ready (rs := [0, 2]) (by kernel_rfl) (by simp) ?_
        refine AllReadyH.cons rfl (fun K hK => ?_) (AllReadyH.cons rfl (fun K hK => ?_) (AllReadyH.nil))
        · have hway : True := trivial
          obtain ⟨x0, x1, x2⟩ := Box.three (LD.xo hL0)
          go_simp
          refine hK.out _ _ trivial (fun hHeld1 => ?_)
          clear hK K
          try simp only [Act.put]
          refine wpAnyH_ready (rs := [2]) (by kernel_rfl) (by simp) ?_
          refine AllReadyH.cons rfl (fun K hK => ?_) (AllReadyH.nil)
          go_simp
          go_at_call 59
          refine (l2Fate_any g (k2 + 1) _ (LD.rd hL0) (by omega)).mono ?_
          rintro e wt2 ⟨fs, vf, k3, hfl, hk3, rfl, hfo, hg2, hR2⟩
          have hL2 := LD.grown hL0 hg2 hR2
          have hsf := sl_of_own hfo
          have hlf := low_of_own hfo
          obtain ⟨_, Af, cf, rfl, _⟩ := sl_of_own hfo
          go_wp2_with fail
          refine hK.out _ _ trivial (fun hHeld2 => ?_)
          clear hK K
          try simp only [Act.put]
          refine wpAnyH_ready (rs := [3]) (by kernel_rfl) (by simp) ?_
          refine AllReadyH.cons rfl (fun K hK => ?_) (AllReadyH.nil)
          go_simp
          go_at_call 58
          refine (DiskFall_any _ _ _ _ d2 fs _ (LD.own hL2).reads (LD.tiny hL2).short hsf hlf (by omega)).mono ?_
          rintro e wt3 ⟨s0, s1, sl, rfl, hso, hb3⟩
          have hL3 := LD.below hL2 hb3
          have hO3 := DiskOwn.base hso (show w.heap.size + 1 ≤ _ from Nat.le_trans (LD.hx hL2) (Nat.le_of_lt (Box.lt (LD.xo hL2))))
          have hsx := DiskOwn.past hso (Box.lt (LD.xo hL2))
          have hT := tiny_fall (fs := fs) (LD.tiny hL2)
          have hP := LD.put hL3 hO3 hsx hT
          obtain ⟨S0, m0, S1, m1, Sl_, ml, rfl, rfl, rfl⟩ := hso.forms
          go_wp2_with fail
          refine hK.out _ _ trivial (fun hHeld3 => ?_)
          clear hK K
          try simp only [Act.put]
          refine wpAnyH_ready (rs := [4]) (by kernel_rfl) (by simp) ?_
          refine AllReadyH.cons rfl (fun K hK => ?_) (AllReadyH.nil)
          obtain ⟨p0, p1, p2⟩ := Box.three (LD.xo hL3)
          have q0 := Box.open_ (LD.xo hL3) 0
          have q1 := Box.open_ (LD.xo hL3) 1
          have q2 := Box.open_ (LD.xo hL3) 2
          go_simp
          refine hK.out _ _ trivial (fun hHeld4 => ?_)
          clear hK K
          try simp only [Act.put]
          refine wpAnyH_done (by kernel_rfl) ?_ _
          go_simp
          go_wp2
          go_roundw
          case rel => exact ⟨j - 1, k3, _, _, _, _, by omega, by go_num, by omega, Lib.hid hP⟩
          case measure => simp [intOf]; omega
        · have hway : True := trivial
          go_simp
          go_at_call 59
          refine (l2Fate_any g (k2 + 1) _ (LD.rd hL0) (by omega)).mono ?_
          rintro e wt1 ⟨fs, vf, k3, hfl, hk3, rfl, hfo, hg1, hR1⟩
          have hL1 := LD.grown hL0 hg1 hR1
          have hsf := sl_of_own hfo
          have hlf := low_of_own hfo
          obtain ⟨_, Af, cf, rfl, _⟩ := sl_of_own hfo
          go_wp2_with fail
          refine hK.out _ _ trivial (fun hHeld1 => ?_)
          clear hK K
          try simp only [Act.put]
          refine wpAnyH_ready (rs := [0]) (by kernel_rfl) (by simp) ?_
          refine AllReadyH.cons rfl (fun K hK => ?_) (AllReadyH.nil)
          obtain ⟨x0, x1, x2⟩ := Box.three (LD.xo hL1)
          go_simp
          refine hK.out _ _ trivial (fun hHeld2 => ?_)
          clear hK K
          try simp only [Act.put]
          refine wpAnyH_ready (rs := [3]) (by kernel_rfl) (by simp) ?_
          refine AllReadyH.cons rfl (fun K hK => ?_) (AllReadyH.nil)
          go_simp
          go_at_call 58
          refine (DiskFall_any _ _ _ _ d2 fs _ (LD.own hL1).reads (LD.tiny hL1).short hsf hlf (by omega)).mono ?_
          rintro e wt3 ⟨s0, s1, sl, rfl, hso, hb3⟩
          have hL3 := LD.below hL1 hb3
          have hO3 := DiskOwn.base hso (show w.heap.size + 1 ≤ _ from Nat.le_trans (LD.hx hL1) (Nat.le_of_lt (Box.lt (LD.xo hL1))))
          have hsx := DiskOwn.past hso (Box.lt (LD.xo hL1))
          have hT := tiny_fall (fs := fs) (LD.tiny hL1)
          have hP := LD.put hL3 hO3 hsx hT
          obtain ⟨S0, m0, S1, m1, Sl_, ml, rfl, rfl, rfl⟩ := hso.forms
          go_wp2_with fail
          refine hK.out _ _ trivial (fun hHeld3 => ?_)
          clear hK K
          try simp only [Act.put]
          refine wpAnyH_ready (rs := [4]) (by kernel_rfl) (by simp) ?_
          refine AllReadyH.cons rfl (fun K hK => ?_) (AllReadyH.nil)
          obtain ⟨p0, p1, p2⟩ := Box.three (LD.xo hL3)
          have q0 := Box.open_ (LD.xo hL3) 0
          have q1 := Box.open_ (LD.xo hL3) 1
          have q2 := Box.open_ (LD.xo hL3) 2
          go_simp
          refine hK.out _ _ trivial (fun hHeld4 => ?_)
          clear hK K
          try simp only [Act.put]
          refine wpAnyH_done (by kernel_rfl) ?_ _
          go_simp
          go_wp2
          go_roundw
          case rel => exact ⟨j - 1, k3, _, _, _, _, by omega, by go_num, by omega, Lib.hid hP⟩
          case measure => simp [intOf]; omega
      · have hb0 : ((r8 : Int) == 0) = false := beq_eq_false_iff_ne.2 (by omega)
        have hb1 : ((r8 : Int) == 1) = false := beq_eq_false_iff_ne.2 (by omega)
        clear x0 x1 x2 q0 q1 q2
        go_wp2
        go_roundw
        case rel => exact ⟨j - 1, k2 + 1, _, _, _, _, by omega, by go_num, by omega, L7⟩
        case measure => simp [intOf]; omega
    · obtain ⟨j0, hj_, hy0, hy1, hy2⟩ := info_parts infoStr
      have hj1 : ¬ (0 : Int) < (j : Int) := by omega
      go_wp2_with fail
      refine (pick_24 g kk _ L.out.rd (by omega)).mono ?_
      rintro e w4 ⟨r4, hr4, rfl, hg4, hq4⟩
      have L4 := Lib.hid (L.out.grown hg4 hq4)
      clear hg4 hq4 L
      by_cases h0 : r4 = 0
      · subst h0
        obtain ⟨n1, HN1⟩ : ∃ n, Hid (d.s1.length = n) := ⟨_, Lib.hid rfl⟩
        have hn1 := L4.out.tiny.n1
        rw [HN1.out] at L4 hn1
        obtain ⟨x0, x1, x2⟩ := L4.out.xo.three
        have hO := L4.out.own.o1
        rw [HN1.out] at hO
        have hwl := L4.out.xr.lt
        have hxl := L4.out.xo.lt
        go_wp2_with (first
          | (at_builtin; refine wpList_append_lies _ rfl _ _ 23 rfl (w.heap.size + 1) 9 j0 _ 1 16 Try.underlying23 hj_ hy0 hy1 hy2 rfl (by omega) _ n1 (scs d.s1) rfl (hO.alloc _) ⟨w4.heap.size, 0, none⟩ 1 1 [.string ⟨#[]⟩] rfl rfl ?c1 (by simp; rfl) (by omega) (by unfold maxLen; omega) (by omega) (by simp; omega) (w4.heap.size + 1) (by simp) ?_))
        case c1 => exact World.news_of_block (cs := #[.string ⟨#[]⟩]) (t := 9) (fr := (0, 0)) (heap_alloc_new w4 _)
        intro gg cap w5 hown3 hgrow hat hglt
        obtain ⟨hbx, hF⟩ := LD.more1 L4.out HN1.out (Nat.zero_le _) hown3 hgrow hat
        have F5 := Lib.hid hF
        obtain ⟨y0, y1, y2⟩ := hbx.three
        have q1 := hbx.open_ 1
        clear hown3 hgrow hat hglt hF hO x0 x1 x2
        go_upto_region 19 with fail
        generalize w5.setCell ⟨X, 1, none⟩ (.slice (some ⟨gg, 0, none⟩) (n1 + 1) cap) = w6 at F5 ⊢
        obtain ⟨z0, z1, z2⟩ := F5.out.xo.three
        obtain ⟨r0, r1, r2⟩ := F5.out.xr.three
        have f0 := F5.out.xr.open_ 0
        have f1 := F5.out.xr.open_ 1
        have f2 := F5.out.xr.open_ 2
        have hxw := F5.out.hx
        have Q1 := Lib.hid (F5.out.xr.set 0 (.slice A0 d.s0.length c0))
        have Q2 := Lib.hid (Q1.out.set 1 (.slice (some ⟨gg, 0, none⟩) (n1 + 1) cap))
        have Q3 := Lib.hid (Q2.out.set 2 (.slice Al d.late.length cl))
        have D := Lib.hid (Fin.back F5.out (by omega))
        go_wp2
        exact bodyPost_ret (v := .agg #[.slice A0 d.s0.length c0, .slice (some ⟨gg, 0, none⟩) (n1 + 1) cap, .slice Al d.late.length cl]) (by simp [results, Try.results26, go_sem, Q1.out.cell 0 rfl, Q2.out.cell 1 rfl, Q3.out.cell 2 rfl]) rfl D.out
      by_cases h1 : r4 = 1
      · subst h1
        obtain ⟨j1, hj1_, hz0, hz1, hz2⟩ := info_parts infoLate
        obtain ⟨nl, HNL⟩ : ∃ n, Hid (d.late.length = n) := ⟨_, Lib.hid rfl⟩
        have hnl := L4.out.tiny.nl
        rw [HNL.out] at L4 hnl
        go_upto_region 16 with fail
        have hL0 := LD.below L4.out (Below.drew (Below.refl _ w4))
        refine wp_region_held_drew (S := fun _ => True) (by kernel_rfl) trivial (fun hHeld => ?_)
        generalize w4.drew = wd at hL0 ⊢
        refine wpAnyH_take (i := 0) (v := ?_) rfl (by kernel_rfl) (by kernel_rfl) (by kernel_rfl) (fun _ _ _ h => h) (Or.inl ⟨by rfl, ?_⟩) (by assumption) ?_
        rotate_left
        · (intro w' hSw; go_simp; try with_reducible rfl)
        try simp only [Act.put]
        refine wpAnyH_take (i := 2) (v := ?_) rfl (by kernel_rfl) (by kernel_rfl) (by kernel_rfl) (fun _ _ _ h => h) (Or.inl ⟨by rfl, ?_⟩) (by assumption) ?_
        rotate_left
        · (intro w' hSw; go_simp; try with_reducible rfl)
        try simp only [Act.put]
        refine wpAnyH_take (i := 5) (v := ?_) rfl (by kernel_rfl) (by kernel_rfl) (by kernel_rfl) (fun _ _ _ h => h) (Or.inl ⟨by rfl, ?_⟩) (by assumption) ?_
        rotate_left
        · (intro w' hSw; go_simp; try with_reducible rfl)
        try simp only [Act.put]
        refine wpAnyH_ready (rs := [1, 3, 6]) (by kernel_rfl) (by simp) ?_
        refine AllReadyH.cons rfl (fun K hK => ?_) (AllReadyH.cons rfl (fun K hK => ?_) (AllReadyH.cons rfl (fun K hK => ?_) (AllReadyH.nil)))
        · have hway : True := trivial
          obtain ⟨x0, x1, x2⟩ := Box.three (LD.xo hL0)
          go_simp
          refine hK.out _ _ trivial (fun hHeld1 => ?_)
          clear hK K
          try simp only [Act.put]
          refine wpAnyH_ready (rs := [3, 6]) (by kernel_rfl) (by simp) ?_
          refine AllReadyH.cons rfl (fun K hK => ?_) (AllReadyH.cons rfl (fun K hK => ?_) (AllReadyH.nil))
          · have hway : True := trivial
            have hnw2 := Below.new (w := wd) (.cells (ics [-1, 2, 0]).toArray 3)
            have hL2 := LD.below hL0 hnw2
            have hA3_2 : (wd.alloc (.cells (ics [-1, 2, 0]).toArray 3)).heap[wd.heap.size]? = some (.cells (ics [-1, 2, 0]).toArray 3 (0, 0)) := heap_alloc_new _ _
            have hne3 : wd.heap.size ≠ g := by have := (LD.rd hL0).lt; omega
            go_simp
            refine hK.out _ _ trivial (fun hHeld2 => ?_)
            clear hK K
            try simp only [Act.put]
            clear hnw2
            try (change wpAnyH _ _ _ _ _ _ _ _ (wd.alloc (.cells (ics [-1, 2, 0]).toArray 3)))
            generalize wd.alloc (.cells (ics [-1, 2, 0]).toArray 3) = wa2 at hL2 hA3_2 ⊢
            refine wpAnyH_ready (rs := [4, 6]) (by kernel_rfl) (by simp) ?_
            refine AllReadyH.cons rfl (fun K hK => ?_) (AllReadyH.cons rfl (fun K hK => ?_) (AllReadyH.nil))
            · have hway : True := trivial
              go_simp
              go_at_call 27
              refine (num_op g (kk + 1) (wd.heap.size) 3 [-1, 2, 0] 3 (0, 0) _ (LD.rd hL2) (by omega) hA3_2 hne3 rfl (by omega) (by omega)).mono ?_
              rintro e wt3 ⟨za, hzza, rfl, hg3, hR3⟩
              have hL3 := LD.grown hL2 hg3 hR3
              have hA3_3 := heapG hA3_2 hg3 hne3
              go_wp2_with fail
              refine hK.out _ _ trivial (fun hHeld3 => ?_)
              clear hK K
              try simp only [Act.put]
              refine wpAnyH_ready (rs := [6]) (by kernel_rfl) (by simp) ?_
              refine AllReadyH.cons rfl (fun K hK => ?_) (AllReadyH.nil)
              have hnw4 := Below.new (w := wt3) (.cells (ics [-1, 6, 0]).toArray 3)
              have hL4 := LD.below hL3 hnw4
              have hA3_4 := heapN hA3_3 (.cells (ics [-1, 6, 0]).toArray 3)
              have hA6_4 : (wt3.alloc (.cells (ics [-1, 6, 0]).toArray 3)).heap[wt3.heap.size]? = some (.cells (ics [-1, 6, 0]).toArray 3 (0, 0)) := heap_alloc_new _ _
              have hne6 : wt3.heap.size ≠ g := by have := (LD.rd hL3).lt; omega
              go_simp
              refine hK.out _ _ trivial (fun hHeld4 => ?_)
              clear hK K
              try simp only [Act.put]
              clear hnw4
              try (change wpAnyH _ _ _ _ _ _ _ _ (wt3.alloc (.cells (ics [-1, 6, 0]).toArray 3)))
              generalize wt3.alloc (.cells (ics [-1, 6, 0]).toArray 3) = wa4 at hL4 hA3_4 hA6_4 ⊢
              refine wpAnyH_ready (rs := [7]) (by kernel_rfl) (by simp) ?_
              refine AllReadyH.cons rfl (fun K hK => ?_) (AllReadyH.nil)
              go_simp
              go_at_call 27
              refine (num_op g (kk + 1 + 1) (wt3.heap.size) 3 [-1, 6, 0] 3 (0, 0) _ (LD.rd hL4) (by omega) hA6_4 hne6 rfl (by omega) (by omega)).mono ?_
              rintro e wt5 ⟨zb, hzzb, rfl, hg5, hR5⟩
              have hL5 := LD.grown hL4 hg5 hR5
              have hA3_5 := heapG hA3_4 hg5 hne3
              have hA6_5 := heapG hA6_4 hg5 hne6
              go_wp2_with fail
              refine hK.out _ _ trivial (fun hHeld5 => ?_)
              clear hK K
              try simp only [Act.put]
              refine wpAnyH_take (i := 8) (v := ?_) rfl (by kernel_rfl) (by kernel_rfl) (by kernel_rfl) (fun _ _ _ h => h) (Or.inl ⟨by rfl, ?_⟩) (by assumption) ?_
              rotate_left
              · (intro w' hSw; go_simp; try with_reducible rfl)
              try simp only [Act.put]
              refine wpAnyH_ready (rs := [9]) (by kernel_rfl) (by simp) ?_
              refine AllReadyH.cons rfl (fun K hK => ?_) (AllReadyH.nil)
              go_simp
              refine hK.out _ _ trivial (fun hHeld6 => ?_)
              clear hK K
              try simp only [Act.put]
              refine wpAnyH_ready (rs := [10]) (by kernel_rfl) (by simp) ?_
              refine AllReadyH.cons rfl (fun K hK => ?_) (AllReadyH.nil)
              have hO := LD.own hL5 |>.ol
              rw [HNL.out] at hO
              have hwl := Box.lt (LD.xr hL5)
              refine step_append_lies _ (by rfl) _ _ _ (by rfl) (w.heap.size + 1) 70 j1 _ 3 32 Try.underlying25 hj1_ hz0 hz1 hz2 rfl (by omega) (.slice Al nl cl) nl (lcs d.late) (by rfl) (hO.alloc _) ⟨wt5.heap.size, 0, none⟩ 1 1 (lc ⟨za, zb, ⟨#[]⟩⟩) (by rfl) rfl (World.news_of_block (cs := #[.int .i64 za, .int .i64 zb, .string ⟨#[]⟩]) (t := 70) (fr := (0, 0)) (heap_alloc_new wt5 _)) (by simp [lc]; exact ⟨rfl, rfl, rfl⟩) (by omega) (by unfold maxLen; omega) (by omega) (by simp; omega) (wt5.heap.size + 1) (by simp) ?_
              intro gg cap w5 hown3 hgrow hat hglt
              refine hK.out _ _ trivial (fun hHeld7 => ?_)
              clear hK K
              try simp only [Act.put]
              refine wpAnyH_take (i := 11) (v := ?_) rfl (by kernel_rfl) (by kernel_rfl) (by kernel_rfl) (fun _ _ _ h => h) (Or.inl ⟨by rfl, ?_⟩) (by assumption) ?_
              rotate_left
              · (intro w' hSw; go_simp; try with_reducible rfl)
              try simp only [Act.put]
              refine wpAnyH_ready (rs := [12]) (by kernel_rfl) (by simp) ?_
              refine AllReadyH.cons rfl (fun K hK => ?_) (AllReadyH.nil)
              obtain ⟨hbx, hF⟩ := LD.moreL hL5 HNL.out (Nat.zero_le _) hown3 hgrow hat
              obtain ⟨p0, p1, p2⟩ := Box.three hbx
              have q2 := Box.open_ hbx 2
              go_simp
              refine hK.out _ _ trivial (fun hHeld8 => ?_)
              clear hK K
              try simp only [Act.put]
              refine wpAnyH_done (by kernel_rfl) ?_ _
              go_simp
              have F5 := Lib.hid hF
              clear hown3 hgrow hat hglt hF hbx p0 p1 p2 q2
              go_upto_region 19 with fail
              generalize w5.setCell ⟨X, 2, none⟩ (.slice (some ⟨gg, 0, none⟩) (nl + 1) cap) = w6 at F5 ⊢
              obtain ⟨z0, z1, z2⟩ := F5.out.xo.three
              obtain ⟨r0, r1, r2⟩ := F5.out.xr.three
              have f0 := F5.out.xr.open_ 0
              have f1 := F5.out.xr.open_ 1
              have f2 := F5.out.xr.open_ 2
              have hxw := F5.out.hx
              have Q1 := Lib.hid (F5.out.xr.set 0 (.slice A0 d.s0.length c0))
              have Q2 := Lib.hid (Q1.out.set 1 (.slice A1 d.s1.length c1))
              have Q3 := Lib.hid (Q2.out.set 2 (.slice (some ⟨gg, 0, none⟩) (nl + 1) cap))
              have D := Lib.hid (Fin.back F5.out (by omega))
              go_wp2
              exact bodyPost_ret (v := .agg #[.slice A0 d.s0.length c0, .slice A1 d.s1.length c1, .slice (some ⟨gg, 0, none⟩) (nl + 1) cap]) (by simp [results, Try.results26, go_sem, Q1.out.cell 0 rfl, Q2.out.cell 1 rfl, Q3.out.cell 2 rfl]) rfl D.out
            · have hway : True := trivial
              have hnw3 := Below.new (w := wa2) (.cells (ics [-1, 6, 0]).toArray 3)
              have hL3 := LD.below hL2 hnw3
              have hA3_3 := heapN hA3_2 (.cells (ics [-1, 6, 0]).toArray 3)
              have hA6_3 : (wa2.alloc (.cells (ics [-1, 6, 0]).toArray 3)).heap[wa2.heap.size]? = some (.cells (ics [-1, 6, 0]).toArray 3 (0, 0)) := heap_alloc_new _ _
              have hne6 : wa2.heap.size ≠ g := by have := (LD.rd hL2).lt; omega
              go_simp
              refine hK.out _ _ trivial (fun hHeld3 => ?_)
              clear hK K
              try simp only [Act.put]
              clear hnw3
              try (change wpAnyH _ _ _ _ _ _ _ _ (wa2.alloc (.cells (ics [-1, 6, 0]).toArray 3)))
              generalize wa2.alloc (.cells (ics [-1, 6, 0]).toArray 3) = wa3 at hL3 hA3_3 hA6_3 ⊢
              refine wpAnyH_ready (rs := [4]) (by kernel_rfl) (by simp) ?_
              refine AllReadyH.cons rfl (fun K hK => ?_) (AllReadyH.nil)
              go_simp
              go_at_call 27
              refine (num_op g (kk + 1) (wd.heap.size) 3 [-1, 2, 0] 3 (0, 0) _ (LD.rd hL3) (by omega) hA3_3 hne3 rfl (by omega) (by omega)).mono ?_
              rintro e wt4 ⟨za, hzza, rfl, hg4, hR4⟩
              have hL4 := LD.grown hL3 hg4 hR4
              have hA3_4 := heapG hA3_3 hg4 hne3
              have hA6_4 := heapG hA6_3 hg4 hne6
              go_wp2_with fail
              refine hK.out _ _ trivial (fun hHeld4 => ?_)
              clear hK K
              try simp only [Act.put]
              refine wpAnyH_ready (rs := [7]) (by kernel_rfl) (by simp) ?_
              refine AllReadyH.cons rfl (fun K hK => ?_) (AllReadyH.nil)
              go_simp
              go_at_call 27
              refine (num_op g (kk + 1 + 1) (wa2.heap.size) 3 [-1, 6, 0] 3 (0, 0) _ (LD.rd hL4) (by omega) hA6_4 hne6 rfl (by omega) (by omega)).mono ?_
              rintro e wt5 ⟨zb, hzzb, rfl, hg5, hR5⟩
              have hL5 := LD.grown hL4 hg5 hR5
              have hA3_5 := heapG hA3_4 hg5 hne3
              have hA6_5 := heapG hA6_4 hg5 hne6
              go_wp2_with fail
              refine hK.out _ _ trivial (fun hHeld5 => ?_)
              clear hK K
              try simp only [Act.put]
              refine wpAnyH_take (i := 8) (v := ?_) rfl (by kernel_rfl) (by kernel_rfl) (by kernel_rfl) (fun _ _ _ h => h) (Or.inl ⟨by rfl, ?_⟩) (by assumption) ?_
              rotate_left
              · (intro w' hSw; go_simp; try with_reducible rfl)
              try simp only [Act.put]
              refine wpAnyH_ready (rs := [9]) (by kernel_rfl) (by simp) ?_
              refine AllReadyH.cons rfl (fun K hK => ?_) (AllReadyH.nil)
              go_simp
              refine hK.out _ _ trivial (fun hHeld6 => ?_)
              clear hK K
              try simp only [Act.put]
              refine wpAnyH_ready (rs := [10]) (by kernel_rfl) (by simp) ?_
              refine AllReadyH.cons rfl (fun K hK => ?_) (AllReadyH.nil)
              have hO := LD.own hL5 |>.ol
              rw [HNL.out] at hO
              have hwl := Box.lt (LD.xr hL5)
              refine step_append_lies _ (by rfl) _ _ _ (by rfl) (w.heap.size + 1) 70 j1 _ 3 32 Try.underlying25 hj1_ hz0 hz1 hz2 rfl (by omega) (.slice Al nl cl) nl (lcs d.late) (by rfl) (hO.alloc _) ⟨wt5.heap.size, 0, none⟩ 1 1 (lc ⟨za, zb, ⟨#[]⟩⟩) (by rfl) rfl (World.news_of_block (cs := #[.int .i64 za, .int .i64 zb, .string ⟨#[]⟩]) (t := 70) (fr := (0, 0)) (heap_alloc_new wt5 _)) (by simp [lc]; exact ⟨rfl, rfl, rfl⟩) (by omega) (by unfold maxLen; omega) (by omega) (by simp; omega) (wt5.heap.size + 1) (by simp) ?_
              intro gg cap w5 hown3 hgrow hat hglt
              refine hK.out _ _ trivial (fun hHeld7 => ?_)
              clear hK K
              try simp only [Act.put]
              refine wpAnyH_take (i := 11) (v := ?_) rfl (by kernel_rfl) (by kernel_rfl) (by kernel_rfl) (fun _ _ _ h => h) (Or.inl ⟨by rfl, ?_⟩) (by assumption) ?_
              rotate_left
              · (intro w' hSw; go_simp; try with_reducible rfl)
              try simp only [Act.put]
              refine wpAnyH_ready (rs := [12]) (by kernel_rfl) (by simp) ?_
              refine AllReadyH.cons rfl (fun K hK => ?_) (AllReadyH.nil)
              obtain ⟨hbx, hF⟩ := LD.moreL hL5 HNL.out (Nat.zero_le _) hown3 hgrow hat
              obtain ⟨p0, p1, p2⟩ := Box.three hbx
              have q2 := Box.open_ hbx 2
              go_simp
              refine hK.out _ _ trivial (fun hHeld8 => ?_)
              clear hK K
              try simp only [Act.put]
              refine wpAnyH_done (by kernel_rfl) ?_ _
              go_simp
              have F5 := Lib.hid hF
              clear hown3 hgrow hat hglt hF hbx p0 p1 p2 q2
              go_upto_region 19 with fail
              generalize w5.setCell ⟨X, 2, none⟩ (.slice (some ⟨gg, 0, none⟩) (nl + 1) cap) = w6 at F5 ⊢
              obtain ⟨z0, z1, z2⟩ := F5.out.xo.three
              obtain ⟨r0, r1, r2⟩ := F5.out.xr.three
              have f0 := F5.out.xr.open_ 0
              have f1 := F5.out.xr.open_ 1
              have f2 := F5.out.xr.open_ 2
              have hxw := F5.out.hx
              have Q1 := Lib.hid (F5.out.xr.set 0 (.slice A0 d.s0.length c0))
              have Q2 := Lib.hid (Q1.out.set 1 (.slice A1 d.s1.length c1))
              have Q3 := Lib.hid (Q2.out.set 2 (.slice (some ⟨gg, 0, none⟩) (nl + 1) cap))
              have D := Lib.hid (Fin.back F5.out (by omega))
              go_wp2
              exact bodyPost_ret (v := .agg #[.slice A0 d.s0.length c0, .slice A1 d.s1.length c1, .slice (some ⟨gg, 0, none⟩) (nl + 1) cap]) (by simp [results, Try.results26, go_sem, Q1.out.cell 0 rfl, Q2.out.cell 1 rfl, Q3.out.cell 2 rfl]) rfl D.out
          · have hway : True := trivial
            have hnw2 := Below.new (w := wd) (.cells (ics [-1, 6, 0]).toArray 3)
            have hL2 := LD.below hL0 hnw2
            have hA6_2 : (wd.alloc (.cells (ics [-1, 6, 0]).toArray 3)).heap[wd.heap.size]? = some (.cells (ics [-1, 6, 0]).toArray 3 (0, 0)) := heap_alloc_new _ _
            have hne6 : wd.heap.size ≠ g := by have := (LD.rd hL0).lt; omega
            go_simp
            refine hK.out _ _ trivial (fun hHeld2 => ?_)
            clear hK K
            try simp only [Act.put]
            clear hnw2
            try (change wpAnyH _ _ _ _ _ _ _ _ (wd.alloc (.cells (ics [-1, 6, 0]).toArray 3)))
            generalize wd.alloc (.cells (ics [-1, 6, 0]).toArray 3) = wa2 at hL2 hA6_2 ⊢
            refine wpAnyH_ready (rs := [3]) (by kernel_rfl) (by simp) ?_
            refine AllReadyH.cons rfl (fun K hK => ?_) (AllReadyH.nil)
            have hnw3 := Below.new (w := wa2) (.cells (ics [-1, 2, 0]).toArray 3)
            have hL3 := LD.below hL2 hnw3
            have hA6_3 := heapN hA6_2 (.cells (ics [-1, 2, 0]).toArray 3)
            have hA3_3 : (wa2.alloc (.cells (ics [-1, 2, 0]).toArray 3)).heap[wa2.heap.size]? = some (.cells (ics [-1, 2, 0]).toArray 3 (0, 0)) := heap_alloc_new _ _
            have hne3 : wa2.heap.size ≠ g := by have := (LD.rd hL2).lt; omega
            go_simp
            refine hK.out _ _ trivial (fun hHeld3 => ?_)
            clear hK K
            try simp only [Act.put]
            clear hnw3
            try (change wpAnyH _ _ _ _ _ _ _ _ (wa2.alloc (.cells (ics [-1, 2, 0]).toArray 3)))
            generalize wa2.alloc (.cells (ics [-1, 2, 0]).toArray 3) = wa3 at hL3 hA6_3 hA3_3 ⊢
            refine wpAnyH_ready (rs := [4]) (by kernel_rfl) (by simp) ?_
            refine AllReadyH.cons rfl (fun K hK => ?_) (AllReadyH.nil)
            go_simp
            go_at_call 27
            refine (num_op g (kk + 1) (wa2.heap.size) 3 [-1, 2, 0] 3 (0, 0) _ (LD.rd hL3) (by omega) hA3_3 hne3 rfl (by omega) (by omega)).mono ?_
            rintro e wt4 ⟨za, hzza, rfl, hg4, hR4⟩
            have hL4 := LD.grown hL3 hg4 hR4
            have hA6_4 := heapG hA6_3 hg4 hne6
            have hA3_4 := heapG hA3_3 hg4 hne3
            go_wp2_with fail
            refine hK.out _ _ trivial (fun hHeld4 => ?_)
            clear hK K
            try simp only [Act.put]
            refine wpAnyH_ready (rs := [7]) (by kernel_rfl) (by simp) ?_
            refine AllReadyH.cons rfl (fun K hK => ?_) (AllReadyH.nil)
            go_simp
            go_at_call 27
            refine (num_op g (kk + 1 + 1) (wd.heap.size) 3 [-1, 6, 0] 3 (0, 0) _ (LD.rd hL4) (by omega) hA6_4 hne6 rfl (by omega) (by omega)).mono ?_
            rintro e wt5 ⟨zb, hzzb, rfl, hg5, hR5⟩
            have hL5 := LD.grown hL4 hg5 hR5
            have hA6_5 := heapG hA6_4 hg5 hne6
            have hA3_5 := heapG hA3_4 hg5 hne3
            go_wp2_with fail
            refine hK.out _ _ trivial (fun hHeld5 => ?_)
            clear hK K
            try simp only [Act.put]
            refine wpAnyH_take (i := 8) (v := ?_) rfl (by kernel_rfl) (by kernel_rfl) (by kernel_rfl) (fun _ _ _ h => h) (Or.inl ⟨by rfl, ?_⟩) (by assumption) ?_
            rotate_left
            · (intro w' hSw; go_simp; try with_reducible rfl)
            try simp only [Act.put]
            refine wpAnyH_ready (rs := [9]) (by kernel_rfl) (by simp) ?_
            refine AllReadyH.cons rfl (fun K hK => ?_) (AllReadyH.nil)
            go_simp
            refine hK.out _ _ trivial (fun hHeld6 => ?_)
            clear hK K
            try simp only [Act.put]
            refine wpAnyH_ready (rs := [10]) (by kernel_rfl) (by simp) ?_
            refine AllReadyH.cons rfl (fun K hK => ?_) (AllReadyH.nil)
            have hO := LD.own hL5 |>.ol
            rw [HNL.out] at hO
            have hwl := Box.lt (LD.xr hL5)
            refine step_append_lies _ (by rfl) _ _ _ (by rfl) (w.heap.size + 1) 70 j1 _ 3 32 Try.underlying25 hj1_ hz0 hz1 hz2 rfl (by omega) (.slice Al nl cl) nl (lcs d.late) (by rfl) (hO.alloc _) ⟨wt5.heap.size, 0, none⟩ 1 1 (lc ⟨za, zb, ⟨#[]⟩⟩) (by rfl) rfl (World.news_of_block (cs := #[.int .i64 za, .int .i64 zb, .string ⟨#[]⟩]) (t := 70) (fr := (0, 0)) (heap_alloc_new wt5 _)) (by simp [lc]; exact ⟨rfl, rfl, rfl⟩) (by omega) (by unfold maxLen; omega) (by omega) (by simp; omega) (wt5.heap.size + 1) (by simp) ?_
            intro gg cap w5 hown3 hgrow hat hglt
            refine hK.out _ _ trivial (fun hHeld7 => ?_)
            clear hK K
            try simp only [Act.put]
            refine wpAnyH_take (i := 11) (v := ?_) rfl (by kernel_rfl) (by kernel_rfl) (by kernel_rfl) (fun _ _ _ h => h) (Or.inl ⟨by rfl, ?_⟩) (by assumption) ?_
            rotate_left
            · (intro w' hSw; go_simp; try with_reducible rfl)
            try simp only [Act.put]
            refine wpAnyH_ready (rs := [12]) (by kernel_rfl) (by simp) ?_
            refine AllReadyH.cons rfl (fun K hK => ?_) (AllReadyH.nil)
            obtain ⟨hbx, hF⟩ := LD.moreL hL5 HNL.out (Nat.zero_le _) hown3 hgrow hat
            obtain ⟨p0, p1, p2⟩ := Box.three hbx
            have q2 := Box.open_ hbx 2
            go_simp
            refine hK.out _ _ trivial (fun hHeld8 => ?_)
            clear hK K
            try simp only [Act.put]
            refine wpAnyH_done (by kernel_rfl) ?_ _
            go_simp
            have F5 := Lib.hid hF
            clear hown3 hgrow hat hglt hF hbx p0 p1 p2 q2
            go_upto_region 19 with fail
            generalize w5.setCell ⟨X, 2, none⟩ (.slice (some ⟨gg, 0, none⟩) (nl + 1) cap) = w6 at F5 ⊢
            obtain ⟨z0, z1, z2⟩ := F5.out.xo.three
            obtain ⟨r0, r1, r2⟩ := F5.out.xr.three
            have f0 := F5.out.xr.open_ 0
            have f1 := F5.out.xr.open_ 1
            have f2 := F5.out.xr.open_ 2
            have hxw := F5.out.hx
            have Q1 := Lib.hid (F5.out.xr.set 0 (.slice A0 d.s0.length c0))
            have Q2 := Lib.hid (Q1.out.set 1 (.slice A1 d.s1.length c1))
            have Q3 := Lib.hid (Q2.out.set 2 (.slice (some ⟨gg, 0, none⟩) (nl + 1) cap))
            have D := Lib.hid (Fin.back F5.out (by omega))
            go_wp2
            exact bodyPost_ret (v := .agg #[.slice A0 d.s0.length c0, .slice A1 d.s1.length c1, .slice (some ⟨gg, 0, none⟩) (nl + 1) cap]) (by simp [results, Try.results26, go_sem, Q1.out.cell 0 rfl, Q2.out.cell 1 rfl, Q3.out.cell 2 rfl]) rfl D.out
        · have hway : True := trivial
          have hnw1 := Below.new (w := wd) (.cells (ics [-1, 2, 0]).toArray 3)
          have hL1 := LD.below hL0 hnw1
          have hA3_1 : (wd.alloc (.cells (ics [-1, 2, 0]).toArray 3)).heap[wd.heap.size]? = some (.cells (ics [-1, 2, 0]).toArray 3 (0, 0)) := heap_alloc_new _ _
          have hne3 : wd.heap.size ≠ g := by have := (LD.rd hL0).lt; omega
          go_simp
          refine hK.out _ _ trivial (fun hHeld1 => ?_)
          clear hK K
          try simp only [Act.put]
          clear hnw1
          try (change wpAnyH _ _ _ _ _ _ _ _ (wd.alloc (.cells (ics [-1, 2, 0]).toArray 3)))
          generalize wd.alloc (.cells (ics [-1, 2, 0]).toArray 3) = wa1 at hL1 hA3_1 ⊢
          refine wpAnyH_ready (rs := [1, 4, 6]) (by kernel_rfl) (by simp) ?_
          refine AllReadyH.cons rfl (fun K hK => ?_) (AllReadyH.cons rfl (fun K hK => ?_) (AllReadyH.cons rfl (fun K hK => ?_) (AllReadyH.nil)))
          · have hway : True := trivial
            obtain ⟨x0, x1, x2⟩ := Box.three (LD.xo hL1)
            go_simp
            refine hK.out _ _ trivial (fun hHeld2 => ?_)
            clear hK K
            try simp only [Act.put]
            refine wpAnyH_ready (rs := [4, 6]) (by kernel_rfl) (by simp) ?_
            refine AllReadyH.cons rfl (fun K hK => ?_) (AllReadyH.cons rfl (fun K hK => ?_) (AllReadyH.nil))
            · have hway : True := trivial
              go_simp
              go_at_call 27
              refine (num_op g (kk + 1) (wd.heap.size) 3 [-1, 2, 0] 3 (0, 0) _ (LD.rd hL1) (by omega) hA3_1 hne3 rfl (by omega) (by omega)).mono ?_
              rintro e wt3 ⟨za, hzza, rfl, hg3, hR3⟩
              have hL3 := LD.grown hL1 hg3 hR3
              have hA3_3 := heapG hA3_1 hg3 hne3
              go_wp2_with fail
              refine hK.out _ _ trivial (fun hHeld3 => ?_)
              clear hK K
              try simp only [Act.put]
              refine wpAnyH_ready (rs := [6]) (by kernel_rfl) (by simp) ?_
              refine AllReadyH.cons rfl (fun K hK => ?_) (AllReadyH.nil)
              have hnw4 := Below.new (w := wt3) (.cells (ics [-1, 6, 0]).toArray 3)
              have hL4 := LD.below hL3 hnw4
              have hA3_4 := heapN hA3_3 (.cells (ics [-1, 6, 0]).toArray 3)
              have hA6_4 : (wt3.alloc (.cells (ics [-1, 6, 0]).toArray 3)).heap[wt3.heap.size]? = some (.cells (ics [-1, 6, 0]).toArray 3 (0, 0)) := heap_alloc_new _ _
              have hne6 : wt3.heap.size ≠ g := by have := (LD.rd hL3).lt; omega
              go_simp
              refine hK.out _ _ trivial (fun hHeld4 => ?_)
              clear hK K
              try simp only [Act.put]
              clear hnw4
              try (change wpAnyH _ _ _ _ _ _ _ _ (wt3.alloc (.cells (ics [-1, 6, 0]).toArray 3)))
              generalize wt3.alloc (.cells (ics [-1, 6, 0]).toArray 3) = wa4 at hL4 hA3_4 hA6_4 ⊢
              refine wpAnyH_ready (rs := [7]) (by kernel_rfl) (by simp) ?_
              refine AllReadyH.cons rfl (fun K hK => ?_) (AllReadyH.nil)
              go_simp
              go_at_call 27
              refine (num_op g (kk + 1 + 1) (wt3.heap.size) 3 [-1, 6, 0] 3 (0, 0) _ (LD.rd hL4) (by omega) hA6_4 hne6 rfl (by omega) (by omega)).mono ?_
              rintro e wt5 ⟨zb, hzzb, rfl, hg5, hR5⟩
              have hL5 := LD.grown hL4 hg5 hR5
              have hA3_5 := heapG hA3_4 hg5 hne3
              have hA6_5 := heapG hA6_4 hg5 hne6
              go_wp2_with fail
              refine hK.out _ _ trivial (fun hHeld5 => ?_)
              clear hK K
              try simp only [Act.put]
              refine wpAnyH_take (i := 8) (v := ?_) rfl (by kernel_rfl) (by kernel_rfl) (by kernel_rfl) (fun _ _ _ h => h) (Or.inl ⟨by rfl, ?_⟩) (by assumption) ?_
              rotate_left
              · (intro w' hSw; go_simp; try with_reducible rfl)
              try simp only [Act.put]
              refine wpAnyH_ready (rs := [9]) (by kernel_rfl) (by simp) ?_
              refine AllReadyH.cons rfl (fun K hK => ?_) (AllReadyH.nil)
              go_simp
              refine hK.out _ _ trivial (fun hHeld6 => ?_)
              clear hK K
              try simp only [Act.put]
              refine wpAnyH_ready (rs := [10]) (by kernel_rfl) (by simp) ?_
              refine AllReadyH.cons rfl (fun K hK => ?_) (AllReadyH.nil)
              have hO := LD.own hL5 |>.ol
              rw [HNL.out] at hO
              have hwl := Box.lt (LD.xr hL5)
              refine step_append_lies _ (by rfl) _ _ _ (by rfl) (w.heap.size + 1) 70 j1 _ 3 32 Try.underlying25 hj1_ hz0 hz1 hz2 rfl (by omega) (.slice Al nl cl) nl (lcs d.late) (by rfl) (hO.alloc _) ⟨wt5.heap.size, 0, none⟩ 1 1 (lc ⟨za, zb, ⟨#[]⟩⟩) (by rfl) rfl (World.news_of_block (cs := #[.int .i64 za, .int .i64 zb, .string ⟨#[]⟩]) (t := 70) (fr := (0, 0)) (heap_alloc_new wt5 _)) (by simp [lc]; exact ⟨rfl, rfl, rfl⟩) (by omega) (by unfold maxLen; omega) (by omega) (by simp; omega) (wt5.heap.size + 1) (by simp) ?_
              intro gg cap w5 hown3 hgrow hat hglt
              refine hK.out _ _ trivial (fun hHeld7 => ?_)
              clear hK K
              try simp only [Act.put]
              refine wpAnyH_take (i := 11) (v := ?_) rfl (by kernel_rfl) (by kernel_rfl) (by kernel_rfl) (fun _ _ _ h => h) (Or.inl ⟨by rfl, ?_⟩) (by assumption) ?_
              rotate_left
              · (intro w' hSw; go_simp; try with_reducible rfl)
              try simp only [Act.put]
              refine wpAnyH_ready (rs := [12]) (by kernel_rfl) (by simp) ?_
              refine AllReadyH.cons rfl (fun K hK => ?_) (AllReadyH.nil)
              obtain ⟨hbx, hF⟩ := LD.moreL hL5 HNL.out (Nat.zero_le _) hown3 hgrow hat
              obtain ⟨p0, p1, p2⟩ := Box.three hbx
              have q2 := Box.open_ hbx 2
              go_simp
              refine hK.out _ _ trivial (fun hHeld8 => ?_)
              clear hK K
              try simp only [Act.put]
              refine wpAnyH_done (by kernel_rfl) ?_ _
              go_simp
              have F5 := Lib.hid hF
              clear hown3 hgrow hat hglt hF hbx p0 p1 p2 q2
              go_upto_region 19 with fail
              generalize w5.setCell ⟨X, 2, none⟩ (.slice (some ⟨gg, 0, none⟩) (nl + 1) cap) = w6 at F5 ⊢
              obtain ⟨z0, z1, z2⟩ := F5.out.xo.three
              obtain ⟨r0, r1, r2⟩ := F5.out.xr.three
              have f0 := F5.out.xr.open_ 0
              have f1 := F5.out.xr.open_ 1
              have f2 := F5.out.xr.open_ 2
              have hxw := F5.out.hx
              have Q1 := Lib.hid (F5.out.xr.set 0 (.slice A0 d.s0.length c0))
              have Q2 := Lib.hid (Q1.out.set 1 (.slice A1 d.s1.length c1))
              have Q3 := Lib.hid (Q2.out.set 2 (.slice (some ⟨gg, 0, none⟩) (nl + 1) cap))
              have D := Lib.hid (Fin.back F5.out (by omega))
              go_wp2
              exact bodyPost_ret (v := .agg #[.slice A0 d.s0.length c0, .slice A1 d.s1.length c1, .slice (some ⟨gg, 0, none⟩) (nl + 1) cap]) (by simp [results, Try.results26, go_sem, Q1.out.cell 0 rfl, Q2.out.cell 1 rfl, Q3.out.cell 2 rfl]) rfl D.out
            · have hway : True := trivial
              have hnw3 := Below.new (w := wa1) (.cells (ics [-1, 6, 0]).toArray 3)
              have hL3 := LD.below hL1 hnw3
              have hA3_3 := heapN hA3_1 (.cells (ics [-1, 6, 0]).toArray 3)
              have hA6_3 : (wa1.alloc (.cells (ics [-1, 6, 0]).toArray 3)).heap[wa1.heap.size]? = some (.cells (ics [-1, 6, 0]).toArray 3 (0, 0)) := heap_alloc_new _ _
              have hne6 : wa1.heap.size ≠ g := by have := (LD.rd hL1).lt; omega
              go_simp
              refine hK.out _ _ trivial (fun hHeld3 => ?_)
              clear hK K
              try simp only [Act.put]
              clear hnw3
              try (change wpAnyH _ _ _ _ _ _ _ _ (wa1.alloc (.cells (ics [-1, 6, 0]).toArray 3)))
              generalize wa1.alloc (.cells (ics [-1, 6, 0]).toArray 3) = wa3 at hL3 hA3_3 hA6_3 ⊢
              refine wpAnyH_ready (rs := [4]) (by kernel_rfl) (by simp) ?_
              refine AllReadyH.cons rfl (fun K hK => ?_) (AllReadyH.nil)
              go_simp
              go_at_call 27
              refine (num_op g (kk + 1) (wd.heap.size) 3 [-1, 2, 0] 3 (0, 0) _ (LD.rd hL3) (by omega) hA3_3 hne3 rfl (by omega) (by omega)).mono ?_
              rintro e wt4 ⟨za, hzza, rfl, hg4, hR4⟩
              have hL4 := LD.grown hL3 hg4 hR4
              have hA3_4 := heapG hA3_3 hg4 hne3
              have hA6_4 := heapG hA6_3 hg4 hne6
              go_wp2_with fail
              refine hK.out _ _ trivial (fun hHeld4 => ?_)
              clear hK K
              try simp only [Act.put]
              refine wpAnyH_ready (rs := [7]) (by kernel_rfl) (by simp) ?_
              refine AllReadyH.cons rfl (fun K hK => ?_) (AllReadyH.nil)
              go_simp
              go_at_call 27
              refine (num_op g (kk + 1 + 1) (wa1.heap.size) 3 [-1, 6, 0] 3 (0, 0) _ (LD.rd hL4) (by omega) hA6_4 hne6 rfl (by omega) (by omega)).mono ?_
              rintro e wt5 ⟨zb, hzzb, rfl, hg5, hR5⟩
              have hL5 := LD.grown hL4 hg5 hR5
              have hA3_5 := heapG hA3_4 hg5 hne3
              have hA6_5 := heapG hA6_4 hg5 hne6
              go_wp2_with fail
              refine hK.out _ _ trivial (fun hHeld5 => ?_)
              clear hK K
              try simp only [Act.put]
              refine wpAnyH_take (i := 8) (v := ?_) rfl (by kernel_rfl) (by kernel_rfl) (by kernel_rfl) (fun _ _ _ h => h) (Or.inl ⟨by rfl, ?_⟩) (by assumption) ?_
              rotate_left
              · (intro w' hSw; go_simp; try with_reducible rfl)
              try simp only [Act.put]
              refine wpAnyH_ready (rs := [9]) (by kernel_rfl) (by simp) ?_
              refine AllReadyH.cons rfl (fun K hK => ?_) (AllReadyH.nil)
              go_simp
              refine hK.out _ _ trivial (fun hHeld6 => ?_)
              clear hK K
              try simp only [Act.put]
              refine wpAnyH_ready (rs := [10]) (by kernel_rfl) (by simp) ?_
              refine AllReadyH.cons rfl (fun K hK => ?_) (AllReadyH.nil)
              have hO := LD.own hL5 |>.ol
              rw [HNL.out] at hO
              have hwl := Box.lt (LD.xr hL5)
              refine step_append_lies _ (by rfl) _ _ _ (by rfl) (w.heap.size + 1) 70 j1 _ 3 32 Try.underlying25 hj1_ hz0 hz1 hz2 rfl (by omega) (.slice Al nl cl) nl (lcs d.late) (by rfl) (hO.alloc _) ⟨wt5.heap.size, 0, none⟩ 1 1 (lc ⟨za, zb, ⟨#[]⟩⟩) (by rfl) rfl (World.news_of_block (cs := #[.int .i64 za, .int .i64 zb, .string ⟨#[]⟩]) (t := 70) (fr := (0, 0)) (heap_alloc_new wt5 _)) (by simp [lc]; exact ⟨rfl, rfl, rfl⟩) (by omega) (by unfold maxLen; omega) (by omega) (by simp; omega) (wt5.heap.size + 1) (by simp) ?_
              intro gg cap w5 hown3 hgrow hat hglt
              refine hK.out _ _ trivial (fun hHeld7 => ?_)
              clear hK K
              try simp only [Act.put]
              refine wpAnyH_take (i := 11) (v := ?_) rfl (by kernel_rfl) (by kernel_rfl) (by kernel_rfl) (fun _ _ _ h => h) (Or.inl ⟨by rfl, ?_⟩) (by assumption) ?_
              rotate_left
              · (intro w' hSw; go_simp; try with_reducible rfl)
              try simp only [Act.put]
              refine wpAnyH_ready (rs := [12]) (by kernel_rfl) (by simp) ?_
              refine AllReadyH.cons rfl (fun K hK => ?_) (AllReadyH.nil)
              obtain ⟨hbx, hF⟩ := LD.moreL hL5 HNL.out (Nat.zero_le _) hown3 hgrow hat
              obtain ⟨p0, p1, p2⟩ := Box.three hbx
              have q2 := Box.open_ hbx 2
              go_simp
              refine hK.out _ _ trivial (fun hHeld8 => ?_)
              clear hK K
              try simp only [Act.put]
              refine wpAnyH_done (by kernel_rfl) ?_ _
              go_simp
              have F5 := Lib.hid hF
              clear hown3 hgrow hat hglt hF hbx p0 p1 p2 q2
              go_upto_region 19 with fail
              generalize w5.setCell ⟨X, 2, none⟩ (.slice (some ⟨gg, 0, none⟩) (nl + 1) cap) = w6 at F5 ⊢
              obtain ⟨z0, z1, z2⟩ := F5.out.xo.three
              obtain ⟨r0, r1, r2⟩ := F5.out.xr.three
              have f0 := F5.out.xr.open_ 0
              have f1 := F5.out.xr.open_ 1
              have f2 := F5.out.xr.open_ 2
              have hxw := F5.out.hx
              have Q1 := Lib.hid (F5.out.xr.set 0 (.slice A0 d.s0.length c0))
              have Q2 := Lib.hid (Q1.out.set 1 (.slice A1 d.s1.length c1))
              have Q3 := Lib.hid (Q2.out.set 2 (.slice (some ⟨gg, 0, none⟩) (nl + 1) cap))
              have D := Lib.hid (Fin.back F5.out (by omega))
              go_wp2
              exact bodyPost_ret (v := .agg #[.slice A0 d.s0.length c0, .slice A1 d.s1.length c1, .slice (some ⟨gg, 0, none⟩) (nl + 1) cap]) (by simp [results, Try.results26, go_sem, Q1.out.cell 0 rfl, Q2.out.cell 1 rfl, Q3.out.cell 2 rfl]) rfl D.out
          · have hway : True := trivial
            go_simp
            go_at_call 27
            refine (num_op g (kk + 1) (wd.heap.size) 3 [-1, 2, 0] 3 (0, 0) _ (LD.rd hL1) (by omega) hA3_1 hne3 rfl (by omega) (by omega)).mono ?_
            rintro e wt2 ⟨za, hzza, rfl, hg2, hR2⟩
            have hL2 := LD.grown hL1 hg2 hR2
            have hA3_2 := heapG hA3_1 hg2 hne3
            go_wp2_with fail
            refine hK.out _ _ trivial (fun hHeld2 => ?_)
            clear hK K
            try simp only [Act.put]
            refine wpAnyH_ready (rs := [1, 6]) (by kernel_rfl) (by simp) ?_
            refine AllReadyH.cons rfl (fun K hK => ?_) (AllReadyH.cons rfl (fun K hK => ?_) (AllReadyH.nil))
            · have hway : True := trivial
              obtain ⟨x0, x1, x2⟩ := Box.three (LD.xo hL2)
              go_simp
              refine hK.out _ _ trivial (fun hHeld3 => ?_)
              clear hK K
              try simp only [Act.put]
              refine wpAnyH_ready (rs := [6]) (by kernel_rfl) (by simp) ?_
              refine AllReadyH.cons rfl (fun K hK => ?_) (AllReadyH.nil)
              have hnw4 := Below.new (w := wt2) (.cells (ics [-1, 6, 0]).toArray 3)
              have hL4 := LD.below hL2 hnw4
              have hA3_4 := heapN hA3_2 (.cells (ics [-1, 6, 0]).toArray 3)
              have hA6_4 : (wt2.alloc (.cells (ics [-1, 6, 0]).toArray 3)).heap[wt2.heap.size]? = some (.cells (ics [-1, 6, 0]).toArray 3 (0, 0)) := heap_alloc_new _ _
              have hne6 : wt2.heap.size ≠ g := by have := (LD.rd hL2).lt; omega
              go_simp
              refine hK.out _ _ trivial (fun hHeld4 => ?_)
              clear hK K
              try simp only [Act.put]
              clear hnw4
              try (change wpAnyH _ _ _ _ _ _ _ _ (wt2.alloc (.cells (ics [-1, 6, 0]).toArray 3)))
              generalize wt2.alloc (.cells (ics [-1, 6, 0]).toArray 3) = wa4 at hL4 hA3_4 hA6_4 ⊢
              refine wpAnyH_ready (rs := [7]) (by kernel_rfl) (by simp) ?_
              refine AllReadyH.cons rfl (fun K hK => ?_) (AllReadyH.nil)
              go_simp
              go_at_call 27
              refine (num_op g (kk + 1 + 1) (wt2.heap.size) 3 [-1, 6, 0] 3 (0, 0) _ (LD.rd hL4) (by omega) hA6_4 hne6 rfl (by omega) (by omega)).mono ?_
              rintro e wt5 ⟨zb, hzzb, rfl, hg5, hR5⟩
              have hL5 := LD.grown hL4 hg5 hR5
              have hA3_5 := heapG hA3_4 hg5 hne3
              have hA6_5 := heapG hA6_4 hg5 hne6
              go_wp2_with fail
              refine hK.out _ _ trivial (fun hHeld5 => ?_)
              clear hK K
              try simp only [Act.put]
              refine wpAnyH_take (i := 8) (v := ?_) rfl (by kernel_rfl) (by kernel_rfl) (by kernel_rfl) (fun _ _ _ h => h) (Or.inl ⟨by rfl, ?_⟩) (by assumption) ?_
              rotate_left
              · (intro w' hSw; go_simp; try with_reducible rfl)
              try simp only [Act.put]
              refine wpAnyH_ready (rs := [9]) (by kernel_rfl) (by simp) ?_
              refine AllReadyH.cons rfl (fun K hK => ?_) (AllReadyH.nil)
              go_simp
              refine hK.out _ _ trivial (fun hHeld6 => ?_)
              clear hK K
              try simp only [Act.put]
              refine wpAnyH_ready (rs := [10]) (by kernel_rfl) (by simp) ?_
              refine AllReadyH.cons rfl (fun K hK => ?_) (AllReadyH.nil)
              have hO := LD.own hL5 |>.ol
              rw [HNL.out] at hO
              have hwl := Box.lt (LD.xr hL5)
              refine step_append_lies _ (by rfl) _ _ _ (by rfl) (w.heap.size + 1) 70 j1 _ 3 32 Try.underlying25 hj1_ hz0 hz1 hz2 rfl (by omega) (.slice Al nl cl) nl (lcs d.late) (by rfl) (hO.alloc _) ⟨wt5.heap.size, 0, none⟩ 1 1 (lc ⟨za, zb, ⟨#[]⟩⟩) (by rfl) rfl (World.news_of_block (cs := #[.int .i64 za, .int .i64 zb, .string ⟨#[]⟩]) (t := 70) (fr := (0, 0)) (heap_alloc_new wt5 _)) (by simp [lc]; exact ⟨rfl, rfl, rfl⟩) (by omega) (by unfold maxLen; omega) (by omega) (by simp; omega) (wt5.heap.size + 1) (by simp) ?_
              intro gg cap w5 hown3 hgrow hat hglt
              refine hK.out _ _ trivial (fun hHeld7 => ?_)
              clear hK K
              try simp only [Act.put]
              refine wpAnyH_take (i := 11) (v := ?_) rfl (by kernel_rfl) (by kernel_rfl) (by kernel_rfl) (fun _ _ _ h => h) (Or.inl ⟨by rfl, ?_⟩) (by assumption) ?_
              rotate_left
              · (intro w' hSw; go_simp; try with_reducible rfl)
              try simp only [Act.put]
              refine wpAnyH_ready (rs := [12]) (by kernel_rfl) (by simp) ?_
              refine AllReadyH.cons rfl (fun K hK => ?_) (AllReadyH.nil)
              obtain ⟨hbx, hF⟩ := LD.moreL hL5 HNL.out (Nat.zero_le _) hown3 hgrow hat
              obtain ⟨p0, p1, p2⟩ := Box.three hbx
              have q2 := Box.open_ hbx 2
              go_simp
              refine hK.out _ _ trivial (fun hHeld8 => ?_)
              clear hK K
              try simp only [Act.put]
              refine wpAnyH_done (by kernel_rfl) ?_ _
              go_simp
              have F5 := Lib.hid hF
              clear hown3 hgrow hat hglt hF hbx p0 p1 p2 q2
              go_upto_region 19 with fail
              generalize w5.setCell ⟨X, 2, none⟩ (.slice (some ⟨gg, 0, none⟩) (nl + 1) cap) = w6 at F5 ⊢
              obtain ⟨z0, z1, z2⟩ := F5.out.xo.three
              obtain ⟨r0, r1, r2⟩ := F5.out.xr.three
              have f0 := F5.out.xr.open_ 0
              have f1 := F5.out.xr.open_ 1
              have f2 := F5.out.xr.open_ 2
              have hxw := F5.out.hx
              have Q1 := Lib.hid (F5.out.xr.set 0 (.slice A0 d.s0.length c0))
              have Q2 := Lib.hid (Q1.out.set 1 (.slice A1 d.s1.length c1))
              have Q3 := Lib.hid (Q2.out.set 2 (.slice (some ⟨gg, 0, none⟩) (nl + 1) cap))
              have D := Lib.hid (Fin.back F5.out (by omega))
              go_wp2
              exact bodyPost_ret (v := .agg #[.slice A0 d.s0.length c0, .slice A1 d.s1.length c1, .slice (some ⟨gg, 0, none⟩) (nl + 1) cap]) (by simp [results, Try.results26, go_sem, Q1.out.cell 0 rfl, Q2.out.cell 1 rfl, Q3.out.cell 2 rfl]) rfl D.out
            · have hway : True := trivial
              have hnw3 := Below.new (w := wt2) (.cells (ics [-1, 6, 0]).toArray 3)
              have hL3 := LD.below hL2 hnw3
              have hA3_3 := heapN hA3_2 (.cells (ics [-1, 6, 0]).toArray 3)
              have hA6_3 : (wt2.alloc (.cells (ics [-1, 6, 0]).toArray 3)).heap[wt2.heap.size]? = some (.cells (ics [-1, 6, 0]).toArray 3 (0, 0)) := heap_alloc_new _ _
              have hne6 : wt2.heap.size ≠ g := by have := (LD.rd hL2).lt; omega
              go_simp
              refine hK.out _ _ trivial (fun hHeld3 => ?_)
              clear hK K
              try simp only [Act.put]
              clear hnw3
              try (change wpAnyH _ _ _ _ _ _ _ _ (wt2.alloc (.cells (ics [-1, 6, 0]).toArray 3)))
              generalize wt2.alloc (.cells (ics [-1, 6, 0]).toArray 3) = wa3 at hL3 hA3_3 hA6_3 ⊢
              refine wpAnyH_ready (rs := [1, 7]) (by kernel_rfl) (by simp) ?_
              refine AllReadyH.cons rfl (fun K hK => ?_) (AllReadyH.cons rfl (fun K hK => ?_) (AllReadyH.nil))
              · have hway : True := trivial
                obtain ⟨x0, x1, x2⟩ := Box.three (LD.xo hL3)
                go_simp
                refine hK.out _ _ trivial (fun hHeld4 => ?_)
                clear hK K
                try simp only [Act.put]
                refine wpAnyH_ready (rs := [7]) (by kernel_rfl) (by simp) ?_
                refine AllReadyH.cons rfl (fun K hK => ?_) (AllReadyH.nil)
                go_simp
                go_at_call 27
                refine (num_op g (kk + 1 + 1) (wt2.heap.size) 3 [-1, 6, 0] 3 (0, 0) _ (LD.rd hL3) (by omega) hA6_3 hne6 rfl (by omega) (by omega)).mono ?_
                rintro e wt5 ⟨zb, hzzb, rfl, hg5, hR5⟩
                have hL5 := LD.grown hL3 hg5 hR5
                have hA3_5 := heapG hA3_3 hg5 hne3
                have hA6_5 := heapG hA6_3 hg5 hne6
                go_wp2_with fail
                refine hK.out _ _ trivial (fun hHeld5 => ?_)
                clear hK K
                try simp only [Act.put]
                refine wpAnyH_take (i := 8) (v := ?_) rfl (by kernel_rfl) (by kernel_rfl) (by kernel_rfl) (fun _ _ _ h => h) (Or.inl ⟨by rfl, ?_⟩) (by assumption) ?_
                rotate_left
                · (intro w' hSw; go_simp; try with_reducible rfl)
                try simp only [Act.put]
                refine wpAnyH_ready (rs := [9]) (by kernel_rfl) (by simp) ?_
                refine AllReadyH.cons rfl (fun K hK => ?_) (AllReadyH.nil)
                go_simp
                refine hK.out _ _ trivial (fun hHeld6 => ?_)
                clear hK K
                try simp only [Act.put]
                refine wpAnyH_ready (rs := [10]) (by kernel_rfl) (by simp) ?_
                refine AllReadyH.cons rfl (fun K hK => ?_) (AllReadyH.nil)
                have hO := LD.own hL5 |>.ol
                rw [HNL.out] at hO
                have hwl := Box.lt (LD.xr hL5)
                refine step_append_lies _ (by rfl) _ _ _ (by rfl) (w.heap.size + 1) 70 j1 _ 3 32 Try.underlying25 hj1_ hz0 hz1 hz2 rfl (by omega) (.slice Al nl cl) nl (lcs d.late) (by rfl) (hO.alloc _) ⟨wt5.heap.size, 0, none⟩ 1 1 (lc ⟨za, zb, ⟨#[]⟩⟩) (by rfl) rfl (World.news_of_block (cs := #[.int .i64 za, .int .i64 zb, .string ⟨#[]⟩]) (t := 70) (fr := (0, 0)) (heap_alloc_new wt5 _)) (by simp [lc]; exact ⟨rfl, rfl, rfl⟩) (by omega) (by unfold maxLen; omega) (by omega) (by simp; omega) (wt5.heap.size + 1) (by simp) ?_
                intro gg cap w5 hown3 hgrow hat hglt
                refine hK.out _ _ trivial (fun hHeld7 => ?_)
                clear hK K
                try simp only [Act.put]
                refine wpAnyH_take (i := 11) (v := ?_) rfl (by kernel_rfl) (by kernel_rfl) (by kernel_rfl) (fun _ _ _ h => h) (Or.inl ⟨by rfl, ?_⟩) (by assumption) ?_
                rotate_left
                · (intro w' hSw; go_simp; try with_reducible rfl)
                try simp only [Act.put]
                refine wpAnyH_ready (rs := [12]) (by kernel_rfl) (by simp) ?_
                refine AllReadyH.cons rfl (fun K hK => ?_) (AllReadyH.nil)
                obtain ⟨hbx, hF⟩ := LD.moreL hL5 HNL.out (Nat.zero_le _) hown3 hgrow hat
                obtain ⟨p0, p1, p2⟩ := Box.three hbx
                have q2 := Box.open_ hbx 2
                go_simp
                refine hK.out _ _ trivial (fun hHeld8 => ?_)
                clear hK K
                try simp only [Act.put]
                refine wpAnyH_done (by kernel_rfl) ?_ _
                go_simp
                have F5 := Lib.hid hF
                clear hown3 hgrow hat hglt hF hbx p0 p1 p2 q2
                go_upto_region 19 with fail
                generalize w5.setCell ⟨X, 2, none⟩ (.slice (some ⟨gg, 0, none⟩) (nl + 1) cap) = w6 at F5 ⊢
                obtain ⟨z0, z1, z2⟩ := F5.out.xo.three
                obtain ⟨r0, r1, r2⟩ := F5.out.xr.three
                have f0 := F5.out.xr.open_ 0
                have f1 := F5.out.xr.open_ 1
                have f2 := F5.out.xr.open_ 2
                have hxw := F5.out.hx
                have Q1 := Lib.hid (F5.out.xr.set 0 (.slice A0 d.s0.length c0))
                have Q2 := Lib.hid (Q1.out.set 1 (.slice A1 d.s1.length c1))
                have Q3 := Lib.hid (Q2.out.set 2 (.slice (some ⟨gg, 0, none⟩) (nl + 1) cap))
                have D := Lib.hid (Fin.back F5.out (by omega))
                go_wp2
                exact bodyPost_ret (v := .agg #[.slice A0 d.s0.length c0, .slice A1 d.s1.length c1, .slice (some ⟨gg, 0, none⟩) (nl + 1) cap]) (by simp [results, Try.results26, go_sem, Q1.out.cell 0 rfl, Q2.out.cell 1 rfl, Q3.out.cell 2 rfl]) rfl D.out
              · have hway : True := trivial
                go_simp
                go_at_call 27
                refine (num_op g (kk + 1 + 1) (wt2.heap.size) 3 [-1, 6, 0] 3 (0, 0) _ (LD.rd hL3) (by omega) hA6_3 hne6 rfl (by omega) (by omega)).mono ?_
                rintro e wt4 ⟨zb, hzzb, rfl, hg4, hR4⟩
                have hL4 := LD.grown hL3 hg4 hR4
                have hA3_4 := heapG hA3_3 hg4 hne3
                have hA6_4 := heapG hA6_3 hg4 hne6
                go_wp2_with fail
                refine hK.out _ _ trivial (fun hHeld4 => ?_)
                clear hK K
                try simp only [Act.put]
                refine wpAnyH_take (i := 8) (v := ?_) rfl (by kernel_rfl) (by kernel_rfl) (by kernel_rfl) (fun _ _ _ h => h) (Or.inl ⟨by rfl, ?_⟩) (by assumption) ?_
                rotate_left
                · (intro w' hSw; go_simp; try with_reducible rfl)
                try simp only [Act.put]
                refine wpAnyH_ready (rs := [1, 9]) (by kernel_rfl) (by simp) ?_
                refine AllReadyH.cons rfl (fun K hK => ?_) (AllReadyH.cons rfl (fun K hK => ?_) (AllReadyH.nil))
                · have hway : True := trivial
                  obtain ⟨x0, x1, x2⟩ := Box.three (LD.xo hL4)
                  go_simp
                  refine hK.out _ _ trivial (fun hHeld5 => ?_)
                  clear hK K
                  try simp only [Act.put]
                  refine wpAnyH_ready (rs := [9]) (by kernel_rfl) (by simp) ?_
                  refine AllReadyH.cons rfl (fun K hK => ?_) (AllReadyH.nil)
                  go_simp
                  refine hK.out _ _ trivial (fun hHeld6 => ?_)
                  clear hK K
                  try simp only [Act.put]
                  refine wpAnyH_ready (rs := [10]) (by kernel_rfl) (by simp) ?_
                  refine AllReadyH.cons rfl (fun K hK => ?_) (AllReadyH.nil)
                  have hO := LD.own hL4 |>.ol
                  rw [HNL.out] at hO
                  have hwl := Box.lt (LD.xr hL4)
                  refine step_append_lies _ (by rfl) _ _ _ (by rfl) (w.heap.size + 1) 70 j1 _ 3 32 Try.underlying25 hj1_ hz0 hz1 hz2 rfl (by omega) (.slice Al nl cl) nl (lcs d.late) (by rfl) (hO.alloc _) ⟨wt4.heap.size, 0, none⟩ 1 1 (lc ⟨za, zb, ⟨#[]⟩⟩) (by rfl) rfl (World.news_of_block (cs := #[.int .i64 za, .int .i64 zb, .string ⟨#[]⟩]) (t := 70) (fr := (0, 0)) (heap_alloc_new wt4 _)) (by simp [lc]; exact ⟨rfl, rfl, rfl⟩) (by omega) (by unfold maxLen; omega) (by omega) (by simp; omega) (wt4.heap.size + 1) (by simp) ?_
                  intro gg cap w5 hown3 hgrow hat hglt
                  refine hK.out _ _ trivial (fun hHeld7 => ?_)
                  clear hK K
                  try simp only [Act.put]
                  refine wpAnyH_take (i := 11) (v := ?_) rfl (by kernel_rfl) (by kernel_rfl) (by kernel_rfl) (fun _ _ _ h => h) (Or.inl ⟨by rfl, ?_⟩) (by assumption) ?_
                  rotate_left
                  · (intro w' hSw; go_simp; try with_reducible rfl)
                  try simp only [Act.put]
                  refine wpAnyH_ready (rs := [12]) (by kernel_rfl) (by simp) ?_
                  refine AllReadyH.cons rfl (fun K hK => ?_) (AllReadyH.nil)
                  obtain ⟨hbx, hF⟩ := LD.moreL hL4 HNL.out (Nat.zero_le _) hown3 hgrow hat
                  obtain ⟨p0, p1, p2⟩ := Box.three hbx
                  have q2 := Box.open_ hbx 2
                  go_simp
                  refine hK.out _ _ trivial (fun hHeld8 => ?_)
                  clear hK K
                  try simp only [Act.put]
                  refine wpAnyH_done (by kernel_rfl) ?_ _
                  go_simp
                  have F5 := Lib.hid hF
                  clear hown3 hgrow hat hglt hF hbx p0 p1 p2 q2
                  go_upto_region 19 with fail
                  generalize w5.setCell ⟨X, 2, none⟩ (.slice (some ⟨gg, 0, none⟩) (nl + 1) cap) = w6 at F5 ⊢
                  obtain ⟨z0, z1, z2⟩ := F5.out.xo.three
                  obtain ⟨r0, r1, r2⟩ := F5.out.xr.three
                  have f0 := F5.out.xr.open_ 0
                  have f1 := F5.out.xr.open_ 1
                  have f2 := F5.out.xr.open_ 2
                  have hxw := F5.out.hx
                  have Q1 := Lib.hid (F5.out.xr.set 0 (.slice A0 d.s0.length c0))
                  have Q2 := Lib.hid (Q1.out.set 1 (.slice A1 d.s1.length c1))
                  have Q3 := Lib.hid (Q2.out.set 2 (.slice (some ⟨gg, 0, none⟩) (nl + 1) cap))
                  have D := Lib.hid (Fin.back F5.out (by omega))
                  go_wp2
                  exact bodyPost_ret (v := .agg #[.slice A0 d.s0.length c0, .slice A1 d.s1.length c1, .slice (some ⟨gg, 0, none⟩) (nl + 1) cap]) (by simp [results, Try.results26, go_sem, Q1.out.cell 0 rfl, Q2.out.cell 1 rfl, Q3.out.cell 2 rfl]) rfl D.out
                · have hway : True := trivial
                  go_simp
                  refine hK.out _ _ trivial (fun hHeld5 => ?_)
                  clear hK K
                  try simp only [Act.put]
                  refine wpAnyH_ready (rs := [1]) (by kernel_rfl) (by simp) ?_
                  refine AllReadyH.cons rfl (fun K hK => ?_) (AllReadyH.nil)
                  obtain ⟨x0, x1, x2⟩ := Box.three (Box.alloc (LD.xo hL4) (.cells #[.int .i64 za, .int .i64 zb, .string ⟨#[]⟩] 70))
                  go_simp
                  refine hK.out _ _ trivial (fun hHeld6 => ?_)
                  clear hK K
                  try simp only [Act.put]
                  refine wpAnyH_ready (rs := [10]) (by kernel_rfl) (by simp) ?_
                  refine AllReadyH.cons rfl (fun K hK => ?_) (AllReadyH.nil)
                  have hO := LD.own hL4 |>.ol
                  rw [HNL.out] at hO
                  have hwl := Box.lt (LD.xr hL4)
                  refine step_append_lies _ (by rfl) _ _ _ (by rfl) (w.heap.size + 1) 70 j1 _ 3 32 Try.underlying25 hj1_ hz0 hz1 hz2 rfl (by omega) (.slice Al nl cl) nl (lcs d.late) (by rfl) (hO.alloc _) ⟨wt4.heap.size, 0, none⟩ 1 1 (lc ⟨za, zb, ⟨#[]⟩⟩) (by rfl) rfl (World.news_of_block (cs := #[.int .i64 za, .int .i64 zb, .string ⟨#[]⟩]) (t := 70) (fr := (0, 0)) (heap_alloc_new wt4 _)) (by simp [lc]; exact ⟨rfl, rfl, rfl⟩) (by omega) (by unfold maxLen; omega) (by omega) (by simp; omega) (wt4.heap.size + 1) (by simp) ?_
                  intro gg cap w5 hown3 hgrow hat hglt
                  refine hK.out _ _ trivial (fun hHeld7 => ?_)
                  clear hK K
                  try simp only [Act.put]
                  refine wpAnyH_take (i := 11) (v := ?_) rfl (by kernel_rfl) (by kernel_rfl) (by kernel_rfl) (fun _ _ _ h => h) (Or.inl ⟨by rfl, ?_⟩) (by assumption) ?_
                  rotate_left
                  · (intro w' hSw; go_simp; try with_reducible rfl)
                  try simp only [Act.put]
                  refine wpAnyH_ready (rs := [12]) (by kernel_rfl) (by simp) ?_
                  refine AllReadyH.cons rfl (fun K hK => ?_) (AllReadyH.nil)
                  obtain ⟨hbx, hF⟩ := LD.moreL hL4 HNL.out (Nat.zero_le _) hown3 hgrow hat
                  obtain ⟨p0, p1, p2⟩ := Box.three hbx
                  have q2 := Box.open_ hbx 2
                  go_simp
                  refine hK.out _ _ trivial (fun hHeld8 => ?_)
                  clear hK K
                  try simp only [Act.put]
                  refine wpAnyH_done (by kernel_rfl) ?_ _
                  go_simp
                  have F5 := Lib.hid hF
                  clear hown3 hgrow hat hglt hF hbx p0 p1 p2 q2
                  go_upto_region 19 with fail
                  generalize w5.setCell ⟨X, 2, none⟩ (.slice (some ⟨gg, 0, none⟩) (nl + 1) cap) = w6 at F5 ⊢
                  obtain ⟨z0, z1, z2⟩ := F5.out.xo.three
                  obtain ⟨r0, r1, r2⟩ := F5.out.xr.three
                  have f0 := F5.out.xr.open_ 0
                  have f1 := F5.out.xr.open_ 1
                  have f2 := F5.out.xr.open_ 2
                  have hxw := F5.out.hx
                  have Q1 := Lib.hid (F5.out.xr.set 0 (.slice A0 d.s0.length c0))
                  have Q2 := Lib.hid (Q1.out.set 1 (.slice A1 d.s1.length c1))
                  have Q3 := Lib.hid (Q2.out.set 2 (.slice (some ⟨gg, 0, none⟩) (nl + 1) cap))
                  have D := Lib.hid (Fin.back F5.out (by omega))
                  go_wp2
                  exact bodyPost_ret (v := .agg #[.slice A0 d.s0.length c0, .slice A1 d.s1.length c1, .slice (some ⟨gg, 0, none⟩) (nl + 1) cap]) (by simp [results, Try.results26, go_sem, Q1.out.cell 0 rfl, Q2.out.cell 1 rfl, Q3.out.cell 2 rfl]) rfl D.out
          · have hway : True := trivial
            have hnw2 := Below.new (w := wa1) (.cells (ics [-1, 6, 0]).toArray 3)
            have hL2 := LD.below hL1 hnw2
            have hA3_2 := heapN hA3_1 (.cells (ics [-1, 6, 0]).toArray 3)
            have hA6_2 : (wa1.alloc (.cells (ics [-1, 6, 0]).toArray 3)).heap[wa1.heap.size]? = some (.cells (ics [-1, 6, 0]).toArray 3 (0, 0)) := heap_alloc_new _ _
            have hne6 : wa1.heap.size ≠ g := by have := (LD.rd hL1).lt; omega
            go_simp
            refine hK.out _ _ trivial (fun hHeld2 => ?_)
            clear hK K
            try simp only [Act.put]
            clear hnw2
            try (change wpAnyH _ _ _ _ _ _ _ _ (wa1.alloc (.cells (ics [-1, 6, 0]).toArray 3)))
            generalize wa1.alloc (.cells (ics [-1, 6, 0]).toArray 3) = wa2 at hL2 hA3_2 hA6_2 ⊢
            refine wpAnyH_ready (rs := [1, 4]) (by kernel_rfl) (by simp) ?_
            refine AllReadyH.cons rfl (fun K hK => ?_) (AllReadyH.cons rfl (fun K hK => ?_) (AllReadyH.nil))
            · have hway : True := trivial
              obtain ⟨x0, x1, x2⟩ := Box.three (LD.xo hL2)
              go_simp
              refine hK.out _ _ trivial (fun hHeld3 => ?_)
              clear hK K
              try simp only [Act.put]
              refine wpAnyH_ready (rs := [4]) (by kernel_rfl) (by simp) ?_
              refine AllReadyH.cons rfl (fun K hK => ?_) (AllReadyH.nil)
              go_simp
              go_at_call 27
              refine (num_op g (kk + 1) (wd.heap.size) 3 [-1, 2, 0] 3 (0, 0) _ (LD.rd hL2) (by omega) hA3_2 hne3 rfl (by omega) (by omega)).mono ?_
              rintro e wt4 ⟨za, hzza, rfl, hg4, hR4⟩
              have hL4 := LD.grown hL2 hg4 hR4
              have hA3_4 := heapG hA3_2 hg4 hne3
              have hA6_4 := heapG hA6_2 hg4 hne6
              go_wp2_with fail
              refine hK.out _ _ trivial (fun hHeld4 => ?_)
              clear hK K
              try simp only [Act.put]
              refine wpAnyH_ready (rs := [7]) (by kernel_rfl) (by simp) ?_
              refine AllReadyH.cons rfl (fun K hK => ?_) (AllReadyH.nil)
              go_simp
              go_at_call 27
              refine (num_op g (kk + 1 + 1) (wa1.heap.size) 3 [-1, 6, 0] 3 (0, 0) _ (LD.rd hL4) (by omega) hA6_4 hne6 rfl (by omega) (by omega)).mono ?_
              rintro e wt5 ⟨zb, hzzb, rfl, hg5, hR5⟩
              have hL5 := LD.grown hL4 hg5 hR5
              have hA3_5 := heapG hA3_4 hg5 hne3
              have hA6_5 := heapG hA6_4 hg5 hne6
              go_wp2_with fail
              refine hK.out _ _ trivial (fun hHeld5 => ?_)
              clear hK K
              try simp only [Act.put]
              refine wpAnyH_take (i := 8) (v := ?_) rfl (by kernel_rfl) (by kernel_rfl) (by kernel_rfl) (fun _ _ _ h => h) (Or.inl ⟨by rfl, ?_⟩) (by assumption) ?_
              rotate_left
              · (intro w' hSw; go_simp; try with_reducible rfl)
              try simp only [Act.put]
              refine wpAnyH_ready (rs := [9]) (by kernel_rfl) (by simp) ?_
              refine AllReadyH.cons rfl (fun K hK => ?_) (AllReadyH.nil)
              go_simp
              refine hK.out _ _ trivial (fun hHeld6 => ?_)
              clear hK K
              try simp only [Act.put]
              refine wpAnyH_ready (rs := [10]) (by kernel_rfl) (by simp) ?_
              refine AllReadyH.cons rfl (fun K hK => ?_) (AllReadyH.nil)
              have hO := LD.own hL5 |>.ol
              rw [HNL.out] at hO
              have hwl := Box.lt (LD.xr hL5)
              refine step_append_lies _ (by rfl) _ _ _ (by rfl) (w.heap.size + 1) 70 j1 _ 3 32 Try.underlying25 hj1_ hz0 hz1 hz2 rfl (by omega) (.slice Al nl cl) nl (lcs d.late) (by rfl) (hO.alloc _) ⟨wt5.heap.size, 0, none⟩ 1 1 (lc ⟨za, zb, ⟨#[]⟩⟩) (by rfl) rfl (World.news_of_block (cs := #[.int .i64 za, .int .i64 zb, .string ⟨#[]⟩]) (t := 70) (fr := (0, 0)) (heap_alloc_new wt5 _)) (by simp [lc]; exact ⟨rfl, rfl, rfl⟩) (by omega) (by unfold maxLen; omega) (by omega) (by simp; omega) (wt5.heap.size + 1) (by simp) ?_
              intro gg cap w5 hown3 hgrow hat hglt
              refine hK.out _ _ trivial (fun hHeld7 => ?_)
              clear hK K
              try simp only [Act.put]
              refine wpAnyH_take (i := 11) (v := ?_) rfl (by kernel_rfl) (by kernel_rfl) (by kernel_rfl) (fun _ _ _ h => h) (Or.inl ⟨by rfl, ?_⟩) (by assumption) ?_
              rotate_left
              · (intro w' hSw; go_simp; try with_reducible rfl)
              try simp only [Act.put]
              refine wpAnyH_ready (rs := [12]) (by kernel_rfl) (by simp) ?_
              refine AllReadyH.cons rfl (fun K hK => ?_) (AllReadyH.nil)
              obtain ⟨hbx, hF⟩ := LD.moreL hL5 HNL.out (Nat.zero_le _) hown3 hgrow hat
              obtain ⟨p0, p1, p2⟩ := Box.three hbx
              have q2 := Box.open_ hbx 2
              go_simp
              refine hK.out _ _ trivial (fun hHeld8 => ?_)
              clear hK K
              try simp only [Act.put]
              refine wpAnyH_done (by kernel_rfl) ?_ _
              go_simp
              have F5 := Lib.hid hF
              clear hown3 hgrow hat hglt hF hbx p0 p1 p2 q2
              go_upto_region 19 with fail
              generalize w5.setCell ⟨X, 2, none⟩ (.slice (some ⟨gg, 0, none⟩) (nl + 1) cap) = w6 at F5 ⊢
              obtain ⟨z0, z1, z2⟩ := F5.out.xo.three
              obtain ⟨r0, r1, r2⟩ := F5.out.xr.three
              have f0 := F5.out.xr.open_ 0
              have f1 := F5.out.xr.open_ 1
              have f2 := F5.out.xr.open_ 2
              have hxw := F5.out.hx
              have Q1 := Lib.hid (F5.out.xr.set 0 (.slice A0 d.s0.length c0))
              have Q2 := Lib.hid (Q1.out.set 1 (.slice A1 d.s1.length c1))
              have Q3 := Lib.hid (Q2.out.set 2 (.slice (some ⟨gg, 0, none⟩) (nl + 1) cap))
              have D := Lib.hid (Fin.back F5.out (by omega))
              go_wp2
              exact bodyPost_ret (v := .agg #[.slice A0 d.s0.length c0, .slice A1 d.s1.length c1, .slice (some ⟨gg, 0, none⟩) (nl + 1) cap]) (by simp [results, Try.results26, go_sem, Q1.out.cell 0 rfl, Q2.out.cell 1 rfl, Q3.out.cell 2 rfl]) rfl D.out
            · have hway : True := trivial
              go_simp
              go_at_call 27
              refine (num_op g (kk + 1) (wd.heap.size) 3 [-1, 2, 0] 3 (0, 0) _ (LD.rd hL2) (by omega) hA3_2 hne3 rfl (by omega) (by omega)).mono ?_
              rintro e wt3 ⟨za, hzza, rfl, hg3, hR3⟩
              have hL3 := LD.grown hL2 hg3 hR3
              have hA3_3 := heapG hA3_2 hg3 hne3
              have hA6_3 := heapG hA6_2 hg3 hne6
              go_wp2_with fail
              refine hK.out _ _ trivial (fun hHeld3 => ?_)
              clear hK K
              try simp only [Act.put]
              refine wpAnyH_ready (rs := [1, 7]) (by kernel_rfl) (by simp) ?_
              refine AllReadyH.cons rfl (fun K hK => ?_) (AllReadyH.cons rfl (fun K hK => ?_) (AllReadyH.nil))
              · have hway : True := trivial
                obtain ⟨x0, x1, x2⟩ := Box.three (LD.xo hL3)
                go_simp
                refine hK.out _ _ trivial (fun hHeld4 => ?_)
                clear hK K
                try simp only [Act.put]
                refine wpAnyH_ready (rs := [7]) (by kernel_rfl) (by simp) ?_
                refine AllReadyH.cons rfl (fun K hK => ?_) (AllReadyH.nil)
                go_simp
                go_at_call 27
                refine (num_op g (kk + 1 + 1) (wa1.heap.size) 3 [-1, 6, 0] 3 (0, 0) _ (LD.rd hL3) (by omega) hA6_3 hne6 rfl (by omega) (by omega)).mono ?_
                rintro e wt5 ⟨zb, hzzb, rfl, hg5, hR5⟩
                have hL5 := LD.grown hL3 hg5 hR5
                have hA3_5 := heapG hA3_3 hg5 hne3
                have hA6_5 := heapG hA6_3 hg5 hne6
                go_wp2_with fail
                refine hK.out _ _ trivial (fun hHeld5 => ?_)
                clear hK K
                try simp only [Act.put]
                refine wpAnyH_take (i := 8) (v := ?_) rfl (by kernel_rfl) (by kernel_rfl) (by kernel_rfl) (fun _ _ _ h => h) (Or.inl ⟨by rfl, ?_⟩) (by assumption) ?_
                rotate_left
                · (intro w' hSw; go_simp; try with_reducible rfl)
                try simp only [Act.put]
                refine wpAnyH_ready (rs := [9]) (by kernel_rfl) (by simp) ?_
                refine AllReadyH.cons rfl (fun K hK => ?_) (AllReadyH.nil)
                go_simp
                refine hK.out _ _ trivial (fun hHeld6 => ?_)
                clear hK K
                try simp only [Act.put]
                refine wpAnyH_ready (rs := [10]) (by kernel_rfl) (by simp) ?_
                refine AllReadyH.cons rfl (fun K hK => ?_) (AllReadyH.nil)
                have hO := LD.own hL5 |>.ol
                rw [HNL.out] at hO
                have hwl := Box.lt (LD.xr hL5)
                refine step_append_lies _ (by rfl) _ _ _ (by rfl) (w.heap.size + 1) 70 j1 _ 3 32 Try.underlying25 hj1_ hz0 hz1 hz2 rfl (by omega) (.slice Al nl cl) nl (lcs d.late) (by rfl) (hO.alloc _) ⟨wt5.heap.size, 0, none⟩ 1 1 (lc ⟨za, zb, ⟨#[]⟩⟩) (by rfl) rfl (World.news_of_block (cs := #[.int .i64 za, .int .i64 zb, .string ⟨#[]⟩]) (t := 70) (fr := (0, 0)) (heap_alloc_new wt5 _)) (by simp [lc]; exact ⟨rfl, rfl, rfl⟩) (by omega) (by unfold maxLen; omega) (by omega) (by simp; omega) (wt5.heap.size + 1) (by simp) ?_
                intro gg cap w5 hown3 hgrow hat hglt
                refine hK.out _ _ trivial (fun hHeld7 => ?_)
                clear hK K
                try simp only [Act.put]
                refine wpAnyH_take (i := 11) (v := ?_) rfl (by kernel_rfl) (by kernel_rfl) (by kernel_rfl) (fun _ _ _ h => h) (Or.inl ⟨by rfl, ?_⟩) (by assumption) ?_
                rotate_left
                · (intro w' hSw; go_simp; try with_reducible rfl)
                try simp only [Act.put]
                refine wpAnyH_ready (rs := [12]) (by kernel_rfl) (by simp) ?_
                refine AllReadyH.cons rfl (fun K hK => ?_) (AllReadyH.nil)
                obtain ⟨hbx, hF⟩ := LD.moreL hL5 HNL.out (Nat.zero_le _) hown3 hgrow hat
                obtain ⟨p0, p1, p2⟩ := Box.three hbx
                have q2 := Box.open_ hbx 2
                go_simp
                refine hK.out _ _ trivial (fun hHeld8 => ?_)
                clear hK K
                try simp only [Act.put]
                refine wpAnyH_done (by kernel_rfl) ?_ _
                go_simp
                have F5 := Lib.hid hF
                clear hown3 hgrow hat hglt hF hbx p0 p1 p2 q2
                go_upto_region 19 with fail
                generalize w5.setCell ⟨X, 2, none⟩ (.slice (some ⟨gg, 0, none⟩) (nl + 1) cap) = w6 at F5 ⊢
                obtain ⟨z0, z1, z2⟩ := F5.out.xo.three
                obtain ⟨r0, r1, r2⟩ := F5.out.xr.three
                have f0 := F5.out.xr.open_ 0
                have f1 := F5.out.xr.open_ 1
                have f2 := F5.out.xr.open_ 2
                have hxw := F5.out.hx
                have Q1 := Lib.hid (F5.out.xr.set 0 (.slice A0 d.s0.length c0))
                have Q2 := Lib.hid (Q1.out.set 1 (.slice A1 d.s1.length c1))
                have Q3 := Lib.hid (Q2.out.set 2 (.slice (some ⟨gg, 0, none⟩) (nl + 1) cap))
                have D := Lib.hid (Fin.back F5.out (by omega))
                go_wp2
                exact bodyPost_ret (v := .agg #[.slice A0 d.s0.length c0, .slice A1 d.s1.length c1, .slice (some ⟨gg, 0, none⟩) (nl + 1) cap]) (by simp [results, Try.results26, go_sem, Q1.out.cell 0 rfl, Q2.out.cell 1 rfl, Q3.out.cell 2 rfl]) rfl D.out
              · have hway : True := trivial
                go_simp
                go_at_call 27
                refine (num_op g (kk + 1 + 1) (wa1.heap.size) 3 [-1, 6, 0] 3 (0, 0) _ (LD.rd hL3) (by omega) hA6_3 hne6 rfl (by omega) (by omega)).mono ?_
                rintro e wt4 ⟨zb, hzzb, rfl, hg4, hR4⟩
                have hL4 := LD.grown hL3 hg4 hR4
                have hA3_4 := heapG hA3_3 hg4 hne3
                have hA6_4 := heapG hA6_3 hg4 hne6
                go_wp2_with fail
                refine hK.out _ _ trivial (fun hHeld4 => ?_)
                clear hK K
                try simp only [Act.put]
                refine wpAnyH_take (i := 8) (v := ?_) rfl (by kernel_rfl) (by kernel_rfl) (by kernel_rfl) (fun _ _ _ h => h) (Or.inl ⟨by rfl, ?_⟩) (by assumption) ?_
                rotate_left
                · (intro w' hSw; go_simp; try with_reducible rfl)
                try simp only [Act.put]
                refine wpAnyH_ready (rs := [1, 9]) (by kernel_rfl) (by simp) ?_
                refine AllReadyH.cons rfl (fun K hK => ?_) (AllReadyH.cons rfl (fun K hK => ?_) (AllReadyH.nil))
                · have hway : True := trivial
                  obtain ⟨x0, x1, x2⟩ := Box.three (LD.xo hL4)
                  go_simp
                  refine hK.out _ _ trivial (fun hHeld5 => ?_)
                  clear hK K
                  try simp only [Act.put]
                  refine wpAnyH_ready (rs := [9]) (by kernel_rfl) (by simp) ?_
                  refine AllReadyH.cons rfl (fun K hK => ?_) (AllReadyH.nil)
                  go_simp
                  refine hK.out _ _ trivial (fun hHeld6 => ?_)
                  clear hK K
                  try simp only [Act.put]
                  refine wpAnyH_ready (rs := [10]) (by kernel_rfl) (by simp) ?_
                  refine AllReadyH.cons rfl (fun K hK => ?_) (AllReadyH.nil)
                  have hO := LD.own hL4 |>.ol
                  rw [HNL.out] at hO
                  have hwl := Box.lt (LD.xr hL4)
                  refine step_append_lies _ (by rfl) _ _ _ (by rfl) (w.heap.size + 1) 70 j1 _ 3 32 Try.underlying25 hj1_ hz0 hz1 hz2 rfl (by omega) (.slice Al nl cl) nl (lcs d.late) (by rfl) (hO.alloc _) ⟨wt4.heap.size, 0, none⟩ 1 1 (lc ⟨za, zb, ⟨#[]⟩⟩) (by rfl) rfl (World.news_of_block (cs := #[.int .i64 za, .int .i64 zb, .string ⟨#[]⟩]) (t := 70) (fr := (0, 0)) (heap_alloc_new wt4 _)) (by simp [lc]; exact ⟨rfl, rfl, rfl⟩) (by omega) (by unfold maxLen; omega) (by omega) (by simp; omega) (wt4.heap.size + 1) (by simp) ?_
                  intro gg cap w5 hown3 hgrow hat hglt
                  refine hK.out _ _ trivial (fun hHeld7 => ?_)
                  clear hK K
                  try simp only [Act.put]
                  refine wpAnyH_take (i := 11) (v := ?_) rfl (by kernel_rfl) (by kernel_rfl) (by kernel_rfl) (fun _ _ _ h => h) (Or.inl ⟨by rfl, ?_⟩) (by assumption) ?_
                  rotate_left
                  · (intro w' hSw; go_simp; try with_reducible rfl)
                  try simp only [Act.put]
                  refine wpAnyH_ready (rs := [12]) (by kernel_rfl) (by simp) ?_
                  refine AllReadyH.cons rfl (fun K hK => ?_) (AllReadyH.nil)
                  obtain ⟨hbx, hF⟩ := LD.moreL hL4 HNL.out (Nat.zero_le _) hown3 hgrow hat
                  obtain ⟨p0, p1, p2⟩ := Box.three hbx
                  have q2 := Box.open_ hbx 2
                  go_simp
                  refine hK.out _ _ trivial (fun hHeld8 => ?_)
                  clear hK K
                  try simp only [Act.put]
                  refine wpAnyH_done (by kernel_rfl) ?_ _
                  go_simp
                  have F5 := Lib.hid hF
                  clear hown3 hgrow hat hglt hF hbx p0 p1 p2 q2
                  go_upto_region 19 with fail
                  generalize w5.setCell ⟨X, 2, none⟩ (.slice (some ⟨gg, 0, none⟩) (nl + 1) cap) = w6 at F5 ⊢
                  obtain ⟨z0, z1, z2⟩ := F5.out.xo.three
                  obtain ⟨r0, r1, r2⟩ := F5.out.xr.three
                  have f0 := F5.out.xr.open_ 0
                  have f1 := F5.out.xr.open_ 1
                  have f2 := F5.out.xr.open_ 2
                  have hxw := F5.out.hx
                  have Q1 := Lib.hid (F5.out.xr.set 0 (.slice A0 d.s0.length c0))
                  have Q2 := Lib.hid (Q1.out.set 1 (.slice A1 d.s1.length c1))
                  have Q3 := Lib.hid (Q2.out.set 2 (.slice (some ⟨gg, 0, none⟩) (nl + 1) cap))
                  have D := Lib.hid (Fin.back F5.out (by omega))
                  go_wp2
                  exact bodyPost_ret (v := .agg #[.slice A0 d.s0.length c0, .slice A1 d.s1.length c1, .slice (some ⟨gg, 0, none⟩) (nl + 1) cap]) (by simp [results, Try.results26, go_sem, Q1.out.cell 0 rfl, Q2.out.cell 1 rfl, Q3.out.cell 2 rfl]) rfl D.out
                · have hway : True := trivial
                  go_simp
                  refine hK.out _ _ trivial (fun hHeld5 => ?_)
                  clear hK K
                  try simp only [Act.put]
                  refine wpAnyH_ready (rs := [1]) (by kernel_rfl) (by simp) ?_
                  refine AllReadyH.cons rfl (fun K hK => ?_) (AllReadyH.nil)
                  obtain ⟨x0, x1, x2⟩ := Box.three (Box.alloc (LD.xo hL4) (.cells #[.int .i64 za, .int .i64 zb, .string ⟨#[]⟩] 70))
                  go_simp
                  refine hK.out _ _ trivial (fun hHeld6 => ?_)
                  clear hK K
                  try simp only [Act.put]
                  refine wpAnyH_ready (rs := [10]) (by kernel_rfl) (by simp) ?_
                  refine AllReadyH.cons rfl (fun K hK => ?_) (AllReadyH.nil)
                  have hO := LD.own hL4 |>.ol
                  rw [HNL.out] at hO
                  have hwl := Box.lt (LD.xr hL4)
                  refine step_append_lies _ (by rfl) _ _ _ (by rfl) (w.heap.size + 1) 70 j1 _ 3 32 Try.underlying25 hj1_ hz0 hz1 hz2 rfl (by omega) (.slice Al nl cl) nl (lcs d.late) (by rfl) (hO.alloc _) ⟨wt4.heap.size, 0, none⟩ 1 1 (lc ⟨za, zb, ⟨#[]⟩⟩) (by rfl) rfl (World.news_of_block (cs := #[.int .i64 za, .int .i64 zb, .string ⟨#[]⟩]) (t := 70) (fr := (0, 0)) (heap_alloc_new wt4 _)) (by simp [lc]; exact ⟨rfl, rfl, rfl⟩) (by omega) (by unfold maxLen; omega) (by omega) (by simp; omega) (wt4.heap.size + 1) (by simp) ?_
                  intro gg cap w5 hown3 hgrow hat hglt
                  refine hK.out _ _ trivial (fun hHeld7 => ?_)
                  clear hK K
                  try simp only [Act.put]
                  refine wpAnyH_take (i := 11) (v := ?_) rfl (by kernel_rfl) (by kernel_rfl) (by kernel_rfl) (fun _ _ _ h => h) (Or.inl ⟨by rfl, ?_⟩) (by assumption) ?_
                  rotate_left
                  · (intro w' hSw; go_simp; try with_reducible rfl)
                  try simp only [Act.put]
                  refine wpAnyH_ready (rs := [12]) (by kernel_rfl) (by simp) ?_
                  refine AllReadyH.cons rfl (fun K hK => ?_) (AllReadyH.nil)
                  obtain ⟨hbx, hF⟩ := LD.moreL hL4 HNL.out (Nat.zero_le _) hown3 hgrow hat
                  obtain ⟨p0, p1, p2⟩ := Box.three hbx
                  have q2 := Box.open_ hbx 2
                  go_simp
                  refine hK.out _ _ trivial (fun hHeld8 => ?_)
                  clear hK K
                  try simp only [Act.put]
                  refine wpAnyH_done (by kernel_rfl) ?_ _
                  go_simp
                  have F5 := Lib.hid hF
                  clear hown3 hgrow hat hglt hF hbx p0 p1 p2 q2
                  go_upto_region 19 with fail
                  generalize w5.setCell ⟨X, 2, none⟩ (.slice (some ⟨gg, 0, none⟩) (nl + 1) cap) = w6 at F5 ⊢
                  obtain ⟨z0, z1, z2⟩ := F5.out.xo.three
                  obtain ⟨r0, r1, r2⟩ := F5.out.xr.three
                  have f0 := F5.out.xr.open_ 0
                  have f1 := F5.out.xr.open_ 1
                  have f2 := F5.out.xr.open_ 2
                  have hxw := F5.out.hx
                  have Q1 := Lib.hid (F5.out.xr.set 0 (.slice A0 d.s0.length c0))
                  have Q2 := Lib.hid (Q1.out.set 1 (.slice A1 d.s1.length c1))
                  have Q3 := Lib.hid (Q2.out.set 2 (.slice (some ⟨gg, 0, none⟩) (nl + 1) cap))
                  have D := Lib.hid (Fin.back F5.out (by omega))
                  go_wp2
                  exact bodyPost_ret (v := .agg #[.slice A0 d.s0.length c0, .slice A1 d.s1.length c1, .slice (some ⟨gg, 0, none⟩) (nl + 1) cap]) (by simp [results, Try.results26, go_sem, Q1.out.cell 0 rfl, Q2.out.cell 1 rfl, Q3.out.cell 2 rfl]) rfl D.out
        · have hway : True := trivial
          have hnw1 := Below.new (w := wd) (.cells (ics [-1, 6, 0]).toArray 3)
          have hL1 := LD.below hL0 hnw1
          have hA6_1 : (wd.alloc (.cells (ics [-1, 6, 0]).toArray 3)).heap[wd.heap.size]? = some (.cells (ics [-1, 6, 0]).toArray 3 (0, 0)) := heap_alloc_new _ _
          have hne6 : wd.heap.size ≠ g := by have := (LD.rd hL0).lt; omega
          go_simp
          refine hK.out _ _ trivial (fun hHeld1 => ?_)
          clear hK K
          try simp only [Act.put]
          clear hnw1
          try (change wpAnyH _ _ _ _ _ _ _ _ (wd.alloc (.cells (ics [-1, 6, 0]).toArray 3)))
          generalize wd.alloc (.cells (ics [-1, 6, 0]).toArray 3) = wa1 at hL1 hA6_1 ⊢
          refine wpAnyH_ready (rs := [1, 3]) (by kernel_rfl) (by simp) ?_
          refine AllReadyH.cons rfl (fun K hK => ?_) (AllReadyH.cons rfl (fun K hK => ?_) (AllReadyH.nil))
          · have hway : True := trivial
            obtain ⟨x0, x1, x2⟩ := Box.three (LD.xo hL1)
            go_simp
            refine hK.out _ _ trivial (fun hHeld2 => ?_)
            clear hK K
            try simp only [Act.put]
            refine wpAnyH_ready (rs := [3]) (by kernel_rfl) (by simp) ?_
            refine AllReadyH.cons rfl (fun K hK => ?_) (AllReadyH.nil)
            have hnw3 := Below.new (w := wa1) (.cells (ics [-1, 2, 0]).toArray 3)
            have hL3 := LD.below hL1 hnw3
            have hA6_3 := heapN hA6_1 (.cells (ics [-1, 2, 0]).toArray 3)
            have hA3_3 : (wa1.alloc (.cells (ics [-1, 2, 0]).toArray 3)).heap[wa1.heap.size]? = some (.cells (ics [-1, 2, 0]).toArray 3 (0, 0)) := heap_alloc_new _ _
            have hne3 : wa1.heap.size ≠ g := by have := (LD.rd hL1).lt; omega
            go_simp
            refine hK.out _ _ trivial (fun hHeld3 => ?_)
            clear hK K
            try simp only [Act.put]
            clear hnw3
            try (change wpAnyH _ _ _ _ _ _ _ _ (wa1.alloc (.cells (ics [-1, 2, 0]).toArray 3)))
            generalize wa1.alloc (.cells (ics [-1, 2, 0]).toArray 3) = wa3 at hL3 hA6_3 hA3_3 ⊢
            refine wpAnyH_ready (rs := [4]) (by kernel_rfl) (by simp) ?_
            refine AllReadyH.cons rfl (fun K hK => ?_) (AllReadyH.nil)
            go_simp
            go_at_call 27
            refine (num_op g (kk + 1) (wa1.heap.size) 3 [-1, 2, 0] 3 (0, 0) _ (LD.rd hL3) (by omega) hA3_3 hne3 rfl (by omega) (by omega)).mono ?_
            rintro e wt4 ⟨za, hzza, rfl, hg4, hR4⟩
            have hL4 := LD.grown hL3 hg4 hR4
            have hA6_4 := heapG hA6_3 hg4 hne6
            have hA3_4 := heapG hA3_3 hg4 hne3
            go_wp2_with fail
            refine hK.out _ _ trivial (fun hHeld4 => ?_)
            clear hK K
            try simp only [Act.put]
            refine wpAnyH_ready (rs := [7]) (by kernel_rfl) (by simp) ?_
            refine AllReadyH.cons rfl (fun K hK => ?_) (AllReadyH.nil)
            go_simp
            go_at_call 27
            refine (num_op g (kk + 1 + 1) (wd.heap.size) 3 [-1, 6, 0] 3 (0, 0) _ (LD.rd hL4) (by omega) hA6_4 hne6 rfl (by omega) (by omega)).mono ?_
            rintro e wt5 ⟨zb, hzzb, rfl, hg5, hR5⟩
            have hL5 := LD.grown hL4 hg5 hR5
            have hA6_5 := heapG hA6_4 hg5 hne6
            have hA3_5 := heapG hA3_4 hg5 hne3
            go_wp2_with fail
            refine hK.out _ _ trivial (fun hHeld5 => ?_)
            clear hK K
            try simp only [Act.put]
            refine wpAnyH_take (i := 8) (v := ?_) rfl (by kernel_rfl) (by kernel_rfl) (by kernel_rfl) (fun _ _ _ h => h) (Or.inl ⟨by rfl, ?_⟩) (by assumption) ?_
            rotate_left
            · (intro w' hSw; go_simp; try with_reducible rfl)
            try simp only [Act.put]
            refine wpAnyH_ready (rs := [9]) (by kernel_rfl) (by simp) ?_
            refine AllReadyH.cons rfl (fun K hK => ?_) (AllReadyH.nil)
            go_simp
            refine hK.out _ _ trivial (fun hHeld6 => ?_)
            clear hK K
            try simp only [Act.put]
            refine wpAnyH_ready (rs := [10]) (by kernel_rfl) (by simp) ?_
            refine AllReadyH.cons rfl (fun K hK => ?_) (AllReadyH.nil)
            have hO := LD.own hL5 |>.ol
            rw [HNL.out] at hO
            have hwl := Box.lt (LD.xr hL5)
            refine step_append_lies _ (by rfl) _ _ _ (by rfl) (w.heap.size + 1) 70 j1 _ 3 32 Try.underlying25 hj1_ hz0 hz1 hz2 rfl (by omega) (.slice Al nl cl) nl (lcs d.late) (by rfl) (hO.alloc _) ⟨wt5.heap.size, 0, none⟩ 1 1 (lc ⟨za, zb, ⟨#[]⟩⟩) (by rfl) rfl (World.news_of_block (cs := #[.int .i64 za, .int .i64 zb, .string ⟨#[]⟩]) (t := 70) (fr := (0, 0)) (heap_alloc_new wt5 _)) (by simp [lc]; exact ⟨rfl, rfl, rfl⟩) (by omega) (by unfold maxLen; omega) (by omega) (by simp; omega) (wt5.heap.size + 1) (by simp) ?_
            intro gg cap w5 hown3 hgrow hat hglt
            refine hK.out _ _ trivial (fun hHeld7 => ?_)
            clear hK K
            try simp only [Act.put]
            refine wpAnyH_take (i := 11) (v := ?_) rfl (by kernel_rfl) (by kernel_rfl) (by kernel_rfl) (fun _ _ _ h => h) (Or.inl ⟨by rfl, ?_⟩) (by assumption) ?_
            rotate_left
            · (intro w' hSw; go_simp; try with_reducible rfl)
            try simp only [Act.put]
            refine wpAnyH_ready (rs := [12]) (by kernel_rfl) (by simp) ?_
            refine AllReadyH.cons rfl (fun K hK => ?_) (AllReadyH.nil)
            obtain ⟨hbx, hF⟩ := LD.moreL hL5 HNL.out (Nat.zero_le _) hown3 hgrow hat
            obtain ⟨p0, p1, p2⟩ := Box.three hbx
            have q2 := Box.open_ hbx 2
            go_simp
            refine hK.out _ _ trivial (fun hHeld8 => ?_)
            clear hK K
            try simp only [Act.put]
            refine wpAnyH_done (by kernel_rfl) ?_ _
            go_simp
            have F5 := Lib.hid hF
            clear hown3 hgrow hat hglt hF hbx p0 p1 p2 q2
            go_upto_region 19 with fail
            generalize w5.setCell ⟨X, 2, none⟩ (.slice (some ⟨gg, 0, none⟩) (nl + 1) cap) = w6 at F5 ⊢
            obtain ⟨z0, z1, z2⟩ := F5.out.xo.three
            obtain ⟨r0, r1, r2⟩ := F5.out.xr.three
            have f0 := F5.out.xr.open_ 0
            have f1 := F5.out.xr.open_ 1
            have f2 := F5.out.xr.open_ 2
            have hxw := F5.out.hx
            have Q1 := Lib.hid (F5.out.xr.set 0 (.slice A0 d.s0.length c0))
            have Q2 := Lib.hid (Q1.out.set 1 (.slice A1 d.s1.length c1))
            have Q3 := Lib.hid (Q2.out.set 2 (.slice (some ⟨gg, 0, none⟩) (nl + 1) cap))
            have D := Lib.hid (Fin.back F5.out (by omega))
            go_wp2
            exact bodyPost_ret (v := .agg #[.slice A0 d.s0.length c0, .slice A1 d.s1.length c1, .slice (some ⟨gg, 0, none⟩) (nl + 1) cap]) (by simp [results, Try.results26, go_sem, Q1.out.cell 0 rfl, Q2.out.cell 1 rfl, Q3.out.cell 2 rfl]) rfl D.out
          · have hway : True := trivial
            have hnw2 := Below.new (w := wa1) (.cells (ics [-1, 2, 0]).toArray 3)
            have hL2 := LD.below hL1 hnw2
            have hA6_2 := heapN hA6_1 (.cells (ics [-1, 2, 0]).toArray 3)
            have hA3_2 : (wa1.alloc (.cells (ics [-1, 2, 0]).toArray 3)).heap[wa1.heap.size]? = some (.cells (ics [-1, 2, 0]).toArray 3 (0, 0)) := heap_alloc_new _ _
            have hne3 : wa1.heap.size ≠ g := by have := (LD.rd hL1).lt; omega
            go_simp
            refine hK.out _ _ trivial (fun hHeld2 => ?_)
            clear hK K
            try simp only [Act.put]
            clear hnw2
            try (change wpAnyH _ _ _ _ _ _ _ _ (wa1.alloc (.cells (ics [-1, 2, 0]).toArray 3)))
            generalize wa1.alloc (.cells (ics [-1, 2, 0]).toArray 3) = wa2 at hL2 hA6_2 hA3_2 ⊢
            refine wpAnyH_ready (rs := [1, 4]) (by kernel_rfl) (by simp) ?_
            refine AllReadyH.cons rfl (fun K hK => ?_) (AllReadyH.cons rfl (fun K hK => ?_) (AllReadyH.nil))
            · have hway : True := trivial
              obtain ⟨x0, x1, x2⟩ := Box.three (LD.xo hL2)
              go_simp
              refine hK.out _ _ trivial (fun hHeld3 => ?_)
              clear hK K
              try simp only [Act.put]
              refine wpAnyH_ready (rs := [4]) (by kernel_rfl) (by simp) ?_
              refine AllReadyH.cons rfl (fun K hK => ?_) (AllReadyH.nil)
              go_simp
              go_at_call 27
              refine (num_op g (kk + 1) (wa1.heap.size) 3 [-1, 2, 0] 3 (0, 0) _ (LD.rd hL2) (by omega) hA3_2 hne3 rfl (by omega) (by omega)).mono ?_
              rintro e wt4 ⟨za, hzza, rfl, hg4, hR4⟩
              have hL4 := LD.grown hL2 hg4 hR4
              have hA6_4 := heapG hA6_2 hg4 hne6
              have hA3_4 := heapG hA3_2 hg4 hne3
              go_wp2_with fail
              refine hK.out _ _ trivial (fun hHeld4 => ?_)
              clear hK K
              try simp only [Act.put]
              refine wpAnyH_ready (rs := [7]) (by kernel_rfl) (by simp) ?_
              refine AllReadyH.cons rfl (fun K hK => ?_) (AllReadyH.nil)
              go_simp
              go_at_call 27
              refine (num_op g (kk + 1 + 1) (wd.heap.size) 3 [-1, 6, 0] 3 (0, 0) _ (LD.rd hL4) (by omega) hA6_4 hne6 rfl (by omega) (by omega)).mono ?_
              rintro e wt5 ⟨zb, hzzb, rfl, hg5, hR5⟩
              have hL5 := LD.grown hL4 hg5 hR5
              have hA6_5 := heapG hA6_4 hg5 hne6
              have hA3_5 := heapG hA3_4 hg5 hne3
              go_wp2_with fail
              refine hK.out _ _ trivial (fun hHeld5 => ?_)
              clear hK K
              try simp only [Act.put]
              refine wpAnyH_take (i := 8) (v := ?_) rfl (by kernel_rfl) (by kernel_rfl) (by kernel_rfl) (fun _ _ _ h => h) (Or.inl ⟨by rfl, ?_⟩) (by assumption) ?_
              rotate_left
              · (intro w' hSw; go_simp; try with_reducible rfl)
              try simp only [Act.put]
              refine wpAnyH_ready (rs := [9]) (by kernel_rfl) (by simp) ?_
              refine AllReadyH.cons rfl (fun K hK => ?_) (AllReadyH.nil)
              go_simp
              refine hK.out _ _ trivial (fun hHeld6 => ?_)
              clear hK K
              try simp only [Act.put]
              refine wpAnyH_ready (rs := [10]) (by kernel_rfl) (by simp) ?_
              refine AllReadyH.cons rfl (fun K hK => ?_) (AllReadyH.nil)
              have hO := LD.own hL5 |>.ol
              rw [HNL.out] at hO
              have hwl := Box.lt (LD.xr hL5)
              refine step_append_lies _ (by rfl) _ _ _ (by rfl) (w.heap.size + 1) 70 j1 _ 3 32 Try.underlying25 hj1_ hz0 hz1 hz2 rfl (by omega) (.slice Al nl cl) nl (lcs d.late) (by rfl) (hO.alloc _) ⟨wt5.heap.size, 0, none⟩ 1 1 (lc ⟨za, zb, ⟨#[]⟩⟩) (by rfl) rfl (World.news_of_block (cs := #[.int .i64 za, .int .i64 zb, .string ⟨#[]⟩]) (t := 70) (fr := (0, 0)) (heap_alloc_new wt5 _)) (by simp [lc]; exact ⟨rfl, rfl, rfl⟩) (by omega) (by unfold maxLen; omega) (by omega) (by simp; omega) (wt5.heap.size + 1) (by simp) ?_
              intro gg cap w5 hown3 hgrow hat hglt
              refine hK.out _ _ trivial (fun hHeld7 => ?_)
              clear hK K
              try simp only [Act.put]
              refine wpAnyH_take (i := 11) (v := ?_) rfl (by kernel_rfl) (by kernel_rfl) (by kernel_rfl) (fun _ _ _ h => h) (Or.inl ⟨by rfl, ?_⟩) (by assumption) ?_
              rotate_left
              · (intro w' hSw; go_simp; try with_reducible rfl)
              try simp only [Act.put]
              refine wpAnyH_ready (rs := [12]) (by kernel_rfl) (by simp) ?_
              refine AllReadyH.cons rfl (fun K hK => ?_) (AllReadyH.nil)
              obtain ⟨hbx, hF⟩ := LD.moreL hL5 HNL.out (Nat.zero_le _) hown3 hgrow hat
              obtain ⟨p0, p1, p2⟩ := Box.three hbx
              have q2 := Box.open_ hbx 2
              go_simp
              refine hK.out _ _ trivial (fun hHeld8 => ?_)
              clear hK K
              try simp only [Act.put]
              refine wpAnyH_done (by kernel_rfl) ?_ _
              go_simp
              have F5 := Lib.hid hF
              clear hown3 hgrow hat hglt hF hbx p0 p1 p2 q2
              go_upto_region 19 with fail
              generalize w5.setCell ⟨X, 2, none⟩ (.slice (some ⟨gg, 0, none⟩) (nl + 1) cap) = w6 at F5 ⊢
              obtain ⟨z0, z1, z2⟩ := F5.out.xo.three
              obtain ⟨r0, r1, r2⟩ := F5.out.xr.three
              have f0 := F5.out.xr.open_ 0
              have f1 := F5.out.xr.open_ 1
              have f2 := F5.out.xr.open_ 2
              have hxw := F5.out.hx
              have Q1 := Lib.hid (F5.out.xr.set 0 (.slice A0 d.s0.length c0))
              have Q2 := Lib.hid (Q1.out.set 1 (.slice A1 d.s1.length c1))
              have Q3 := Lib.hid (Q2.out.set 2 (.slice (some ⟨gg, 0, none⟩) (nl + 1) cap))
              have D := Lib.hid (Fin.back F5.out (by omega))
              go_wp2
              exact bodyPost_ret (v := .agg #[.slice A0 d.s0.length c0, .slice A1 d.s1.length c1, .slice (some ⟨gg, 0, none⟩) (nl + 1) cap]) (by simp [results, Try.results26, go_sem, Q1.out.cell 0 rfl, Q2.out.cell 1 rfl, Q3.out.cell 2 rfl]) rfl D.out
            · have hway : True := trivial
              go_simp
              go_at_call 27
              refine (num_op g (kk + 1) (wa1.heap.size) 3 [-1, 2, 0] 3 (0, 0) _ (LD.rd hL2) (by omega) hA3_2 hne3 rfl (by omega) (by omega)).mono ?_
              rintro e wt3 ⟨za, hzza, rfl, hg3, hR3⟩
              have hL3 := LD.grown hL2 hg3 hR3
              have hA6_3 := heapG hA6_2 hg3 hne6
              have hA3_3 := heapG hA3_2 hg3 hne3
              go_wp2_with fail
              refine hK.out _ _ trivial (fun hHeld3 => ?_)
              clear hK K
              try simp only [Act.put]
              refine wpAnyH_ready (rs := [1, 7]) (by kernel_rfl) (by simp) ?_
              refine AllReadyH.cons rfl (fun K hK => ?_) (AllReadyH.cons rfl (fun K hK => ?_) (AllReadyH.nil))
              · have hway : True := trivial
                obtain ⟨x0, x1, x2⟩ := Box.three (LD.xo hL3)
                go_simp
                refine hK.out _ _ trivial (fun hHeld4 => ?_)
                clear hK K
                try simp only [Act.put]
                refine wpAnyH_ready (rs := [7]) (by kernel_rfl) (by simp) ?_
                refine AllReadyH.cons rfl (fun K hK => ?_) (AllReadyH.nil)
                go_simp
                go_at_call 27
                refine (num_op g (kk + 1 + 1) (wd.heap.size) 3 [-1, 6, 0] 3 (0, 0) _ (LD.rd hL3) (by omega) hA6_3 hne6 rfl (by omega) (by omega)).mono ?_
                rintro e wt5 ⟨zb, hzzb, rfl, hg5, hR5⟩
                have hL5 := LD.grown hL3 hg5 hR5
                have hA6_5 := heapG hA6_3 hg5 hne6
                have hA3_5 := heapG hA3_3 hg5 hne3
                go_wp2_with fail
                refine hK.out _ _ trivial (fun hHeld5 => ?_)
                clear hK K
                try simp only [Act.put]
                refine wpAnyH_take (i := 8) (v := ?_) rfl (by kernel_rfl) (by kernel_rfl) (by kernel_rfl) (fun _ _ _ h => h) (Or.inl ⟨by rfl, ?_⟩) (by assumption) ?_
                rotate_left
                · (intro w' hSw; go_simp; try with_reducible rfl)
                try simp only [Act.put]
                refine wpAnyH_ready (rs := [9]) (by kernel_rfl) (by simp) ?_
                refine AllReadyH.cons rfl (fun K hK => ?_) (AllReadyH.nil)
                go_simp
                refine hK.out _ _ trivial (fun hHeld6 => ?_)
                clear hK K
                try simp only [Act.put]
                refine wpAnyH_ready (rs := [10]) (by kernel_rfl) (by simp) ?_
                refine AllReadyH.cons rfl (fun K hK => ?_) (AllReadyH.nil)
                have hO := LD.own hL5 |>.ol
                rw [HNL.out] at hO
                have hwl := Box.lt (LD.xr hL5)
                refine step_append_lies _ (by rfl) _ _ _ (by rfl) (w.heap.size + 1) 70 j1 _ 3 32 Try.underlying25 hj1_ hz0 hz1 hz2 rfl (by omega) (.slice Al nl cl) nl (lcs d.late) (by rfl) (hO.alloc _) ⟨wt5.heap.size, 0, none⟩ 1 1 (lc ⟨za, zb, ⟨#[]⟩⟩) (by rfl) rfl (World.news_of_block (cs := #[.int .i64 za, .int .i64 zb, .string ⟨#[]⟩]) (t := 70) (fr := (0, 0)) (heap_alloc_new wt5 _)) (by simp [lc]; exact ⟨rfl, rfl, rfl⟩) (by omega) (by unfold maxLen; omega) (by omega) (by simp; omega) (wt5.heap.size + 1) (by simp) ?_
                intro gg cap w5 hown3 hgrow hat hglt
                refine hK.out _ _ trivial (fun hHeld7 => ?_)
                clear hK K
                try simp only [Act.put]
                refine wpAnyH_take (i := 11) (v := ?_) rfl (by kernel_rfl) (by kernel_rfl) (by kernel_rfl) (fun _ _ _ h => h) (Or.inl ⟨by rfl, ?_⟩) (by assumption) ?_
                rotate_left
                · (intro w' hSw; go_simp; try with_reducible rfl)
                try simp only [Act.put]
                refine wpAnyH_ready (rs := [12]) (by kernel_rfl) (by simp) ?_
                refine AllReadyH.cons rfl (fun K hK => ?_) (AllReadyH.nil)
                obtain ⟨hbx, hF⟩ := LD.moreL hL5 HNL.out (Nat.zero_le _) hown3 hgrow hat
                obtain ⟨p0, p1, p2⟩ := Box.three hbx
                have q2 := Box.open_ hbx 2
                go_simp
                refine hK.out _ _ trivial (fun hHeld8 => ?_)
                clear hK K
                try simp only [Act.put]
                refine wpAnyH_done (by kernel_rfl) ?_ _
                go_simp
                have F5 := Lib.hid hF
                clear hown3 hgrow hat hglt hF hbx p0 p1 p2 q2
                go_upto_region 19 with fail
                generalize w5.setCell ⟨X, 2, none⟩ (.slice (some ⟨gg, 0, none⟩) (nl + 1) cap) = w6 at F5 ⊢
                obtain ⟨z0, z1, z2⟩ := F5.out.xo.three
                obtain ⟨r0, r1, r2⟩ := F5.out.xr.three
                have f0 := F5.out.xr.open_ 0
                have f1 := F5.out.xr.open_ 1
                have f2 := F5.out.xr.open_ 2
                have hxw := F5.out.hx
                have Q1 := Lib.hid (F5.out.xr.set 0 (.slice A0 d.s0.length c0))
                have Q2 := Lib.hid (Q1.out.set 1 (.slice A1 d.s1.length c1))
                have Q3 := Lib.hid (Q2.out.set 2 (.slice (some ⟨gg, 0, none⟩) (nl + 1) cap))
                have D := Lib.hid (Fin.back F5.out (by omega))
                go_wp2
                exact bodyPost_ret (v := .agg #[.slice A0 d.s0.length c0, .slice A1 d.s1.length c1, .slice (some ⟨gg, 0, none⟩) (nl + 1) cap]) (by simp [results, Try.results26, go_sem, Q1.out.cell 0 rfl, Q2.out.cell 1 rfl, Q3.out.cell 2 rfl]) rfl D.out
              · have hway : True := trivial
                go_simp
                go_at_call 27
                refine (num_op g (kk + 1 + 1) (wd.heap.size) 3 [-1, 6, 0] 3 (0, 0) _ (LD.rd hL3) (by omega) hA6_3 hne6 rfl (by omega) (by omega)).mono ?_
                rintro e wt4 ⟨zb, hzzb, rfl, hg4, hR4⟩
                have hL4 := LD.grown hL3 hg4 hR4
                have hA6_4 := heapG hA6_3 hg4 hne6
                have hA3_4 := heapG hA3_3 hg4 hne3
                go_wp2_with fail
                refine hK.out _ _ trivial (fun hHeld4 => ?_)
                clear hK K
                try simp only [Act.put]
                refine wpAnyH_take (i := 8) (v := ?_) rfl (by kernel_rfl) (by kernel_rfl) (by kernel_rfl) (fun _ _ _ h => h) (Or.inl ⟨by rfl, ?_⟩) (by assumption) ?_
                rotate_left
                · (intro w' hSw; go_simp; try with_reducible rfl)
                try simp only [Act.put]
                refine wpAnyH_ready (rs := [1, 9]) (by kernel_rfl) (by simp) ?_
                refine AllReadyH.cons rfl (fun K hK => ?_) (AllReadyH.cons rfl (fun K hK => ?_) (AllReadyH.nil))
                · have hway : True := trivial
                  obtain ⟨x0, x1, x2⟩ := Box.three (LD.xo hL4)
                  go_simp
                  refine hK.out _ _ trivial (fun hHeld5 => ?_)
                  clear hK K
                  try simp only [Act.put]
                  refine wpAnyH_ready (rs := [9]) (by kernel_rfl) (by simp) ?_
                  refine AllReadyH.cons rfl (fun K hK => ?_) (AllReadyH.nil)
                  go_simp
                  refine hK.out _ _ trivial (fun hHeld6 => ?_)
                  clear hK K
                  try simp only [Act.put]
                  refine wpAnyH_ready (rs := [10]) (by kernel_rfl) (by simp) ?_
                  refine AllReadyH.cons rfl (fun K hK => ?_) (AllReadyH.nil)
                  have hO := LD.own hL4 |>.ol
                  rw [HNL.out] at hO
                  have hwl := Box.lt (LD.xr hL4)
                  refine step_append_lies _ (by rfl) _ _ _ (by rfl) (w.heap.size + 1) 70 j1 _ 3 32 Try.underlying25 hj1_ hz0 hz1 hz2 rfl (by omega) (.slice Al nl cl) nl (lcs d.late) (by rfl) (hO.alloc _) ⟨wt4.heap.size, 0, none⟩ 1 1 (lc ⟨za, zb, ⟨#[]⟩⟩) (by rfl) rfl (World.news_of_block (cs := #[.int .i64 za, .int .i64 zb, .string ⟨#[]⟩]) (t := 70) (fr := (0, 0)) (heap_alloc_new wt4 _)) (by simp [lc]; exact ⟨rfl, rfl, rfl⟩) (by omega) (by unfold maxLen; omega) (by omega) (by simp; omega) (wt4.heap.size + 1) (by simp) ?_
                  intro gg cap w5 hown3 hgrow hat hglt
                  refine hK.out _ _ trivial (fun hHeld7 => ?_)
                  clear hK K
                  try simp only [Act.put]
                  refine wpAnyH_take (i := 11) (v := ?_) rfl (by kernel_rfl) (by kernel_rfl) (by kernel_rfl) (fun _ _ _ h => h) (Or.inl ⟨by rfl, ?_⟩) (by assumption) ?_
                  rotate_left
                  · (intro w' hSw; go_simp; try with_reducible rfl)
                  try simp only [Act.put]
                  refine wpAnyH_ready (rs := [12]) (by kernel_rfl) (by simp) ?_
                  refine AllReadyH.cons rfl (fun K hK => ?_) (AllReadyH.nil)
                  obtain ⟨hbx, hF⟩ := LD.moreL hL4 HNL.out (Nat.zero_le _) hown3 hgrow hat
                  obtain ⟨p0, p1, p2⟩ := Box.three hbx
                  have q2 := Box.open_ hbx 2
                  go_simp
                  refine hK.out _ _ trivial (fun hHeld8 => ?_)
                  clear hK K
                  try simp only [Act.put]
                  refine wpAnyH_done (by kernel_rfl) ?_ _
                  go_simp
                  have F5 := Lib.hid hF
                  clear hown3 hgrow hat hglt hF hbx p0 p1 p2 q2
                  go_upto_region 19 with fail
                  generalize w5.setCell ⟨X, 2, none⟩ (.slice (some ⟨gg, 0, none⟩) (nl + 1) cap) = w6 at F5 ⊢
                  obtain ⟨z0, z1, z2⟩ := F5.out.xo.three
                  obtain ⟨r0, r1, r2⟩ := F5.out.xr.three
                  have f0 := F5.out.xr.open_ 0
                  have f1 := F5.out.xr.open_ 1
                  have f2 := F5.out.xr.open_ 2
                  have hxw := F5.out.hx
                  have Q1 := Lib.hid (F5.out.xr.set 0 (.slice A0 d.s0.length c0))
                  have Q2 := Lib.hid (Q1.out.set 1 (.slice A1 d.s1.length c1))
                  have Q3 := Lib.hid (Q2.out.set 2 (.slice (some ⟨gg, 0, none⟩) (nl + 1) cap))
                  have D := Lib.hid (Fin.back F5.out (by omega))
                  go_wp2
                  exact bodyPost_ret (v := .agg #[.slice A0 d.s0.length c0, .slice A1 d.s1.length c1, .slice (some ⟨gg, 0, none⟩) (nl + 1) cap]) (by simp [results, Try.results26, go_sem, Q1.out.cell 0 rfl, Q2.out.cell 1 rfl, Q3.out.cell 2 rfl]) rfl D.out
                · have hway : True := trivial
                  go_simp
                  refine hK.out _ _ trivial (fun hHeld5 => ?_)
                  clear hK K
                  try simp only [Act.put]
                  refine wpAnyH_ready (rs := [1]) (by kernel_rfl) (by simp) ?_
                  refine AllReadyH.cons rfl (fun K hK => ?_) (AllReadyH.nil)
                  obtain ⟨x0, x1, x2⟩ := Box.three (Box.alloc (LD.xo hL4) (.cells #[.int .i64 za, .int .i64 zb, .string ⟨#[]⟩] 70))
                  go_simp
                  refine hK.out _ _ trivial (fun hHeld6 => ?_)
                  clear hK K
                  try simp only [Act.put]
                  refine wpAnyH_ready (rs := [10]) (by kernel_rfl) (by simp) ?_
                  refine AllReadyH.cons rfl (fun K hK => ?_) (AllReadyH.nil)
                  have hO := LD.own hL4 |>.ol
                  rw [HNL.out] at hO
                  have hwl := Box.lt (LD.xr hL4)
                  refine step_append_lies _ (by rfl) _ _ _ (by rfl) (w.heap.size + 1) 70 j1 _ 3 32 Try.underlying25 hj1_ hz0 hz1 hz2 rfl (by omega) (.slice Al nl cl) nl (lcs d.late) (by rfl) (hO.alloc _) ⟨wt4.heap.size, 0, none⟩ 1 1 (lc ⟨za, zb, ⟨#[]⟩⟩) (by rfl) rfl (World.news_of_block (cs := #[.int .i64 za, .int .i64 zb, .string ⟨#[]⟩]) (t := 70) (fr := (0, 0)) (heap_alloc_new wt4 _)) (by simp [lc]; exact ⟨rfl, rfl, rfl⟩) (by omega) (by unfold maxLen; omega) (by omega) (by simp; omega) (wt4.heap.size + 1) (by simp) ?_
                  intro gg cap w5 hown3 hgrow hat hglt
                  refine hK.out _ _ trivial (fun hHeld7 => ?_)
                  clear hK K
                  try simp only [Act.put]
                  refine wpAnyH_take (i := 11) (v := ?_) rfl (by kernel_rfl) (by kernel_rfl) (by kernel_rfl) (fun _ _ _ h => h) (Or.inl ⟨by rfl, ?_⟩) (by assumption) ?_
                  rotate_left
                  · (intro w' hSw; go_simp; try with_reducible rfl)
                  try simp only [Act.put]
                  refine wpAnyH_ready (rs := [12]) (by kernel_rfl) (by simp) ?_
                  refine AllReadyH.cons rfl (fun K hK => ?_) (AllReadyH.nil)
                  obtain ⟨hbx, hF⟩ := LD.moreL hL4 HNL.out (Nat.zero_le _) hown3 hgrow hat
                  obtain ⟨p0, p1, p2⟩ := Box.three hbx
                  have q2 := Box.open_ hbx 2
                  go_simp
                  refine hK.out _ _ trivial (fun hHeld8 => ?_)
                  clear hK K
                  try simp only [Act.put]
                  refine wpAnyH_done (by kernel_rfl) ?_ _
                  go_simp
                  have F5 := Lib.hid hF
                  clear hown3 hgrow hat hglt hF hbx p0 p1 p2 q2
                  go_upto_region 19 with fail
                  generalize w5.setCell ⟨X, 2, none⟩ (.slice (some ⟨gg, 0, none⟩) (nl + 1) cap) = w6 at F5 ⊢
                  obtain ⟨z0, z1, z2⟩ := F5.out.xo.three
                  obtain ⟨r0, r1, r2⟩ := F5.out.xr.three
                  have f0 := F5.out.xr.open_ 0
                  have f1 := F5.out.xr.open_ 1
                  have f2 := F5.out.xr.open_ 2
                  have hxw := F5.out.hx
                  have Q1 := Lib.hid (F5.out.xr.set 0 (.slice A0 d.s0.length c0))
                  have Q2 := Lib.hid (Q1.out.set 1 (.slice A1 d.s1.length c1))
                  have Q3 := Lib.hid (Q2.out.set 2 (.slice (some ⟨gg, 0, none⟩) (nl + 1) cap))
                  have D := Lib.hid (Fin.back F5.out (by omega))
                  go_wp2
                  exact bodyPost_ret (v := .agg #[.slice A0 d.s0.length c0, .slice A1 d.s1.length c1, .slice (some ⟨gg, 0, none⟩) (nl + 1) cap]) (by simp [results, Try.results26, go_sem, Q1.out.cell 0 rfl, Q2.out.cell 1 rfl, Q3.out.cell 2 rfl]) rfl D.out
      by_cases h2 : r4 = 2
      · subst h2
        obtain ⟨x0, x1, x2⟩ := L4.out.xo.three
        have q0 := L4.out.xo.open_ 0
        have F5 := Lib.hid (L4.out.struck)
        go_upto_region 19 with fail
        generalize w4.setCell ⟨X, 0, none⟩ (.slice none 0 0) = w6 at F5 ⊢
        obtain ⟨z0, z1, z2⟩ := F5.out.xo.three
        obtain ⟨r0, r1, r2⟩ := F5.out.xr.three
        have f0 := F5.out.xr.open_ 0
        have f1 := F5.out.xr.open_ 1
        have f2 := F5.out.xr.open_ 2
        have hxw := F5.out.hx
        have Q1 := Lib.hid (F5.out.xr.set 0 (.slice none 0 0))
        have Q2 := Lib.hid (Q1.out.set 1 (.slice A1 d.s1.length c1))
        have Q3 := Lib.hid (Q2.out.set 2 (.slice Al d.late.length cl))
        have D := Lib.hid (Fin.back F5.out (by omega))
        go_wp2
        exact bodyPost_ret (v := .agg #[.slice none 0 0, .slice A1 d.s1.length c1, .slice Al d.late.length cl]) (by simp [results, Try.results26, go_sem, Q1.out.cell 0 rfl, Q2.out.cell 1 rfl, Q3.out.cell 2 rfl]) rfl D.out
      · have hb0 : ((r4 : Int) == 0) = false := beq_eq_false_iff_ne.2 (by omega)
        have hb1 : ((r4 : Int) == 1) = false := beq_eq_false_iff_ne.2 (by omega)
        have hb2 : ((r4 : Int) == 2) = false := beq_eq_false_iff_ne.2 (by omega)
        have F5 := Lib.hid L4.out.fin
        go_upto_region 19 with fail
        obtain ⟨z0, z1, z2⟩ := F5.out.xo.three
        obtain ⟨r0, r1, r2⟩ := F5.out.xr.three
        have f0 := F5.out.xr.open_ 0
        have f1 := F5.out.xr.open_ 1
        have f2 := F5.out.xr.open_ 2
        have hxw := F5.out.hx
        have Q1 := Lib.hid (F5.out.xr.set 0 (.slice A0 d.s0.length c0))
        have Q2 := Lib.hid (Q1.out.set 1 (.slice A1 d.s1.length c1))
        have Q3 := Lib.hid (Q2.out.set 2 (.slice Al d.late.length cl))
        have D := Lib.hid (Fin.back F5.out (by omega))
        go_wp2
        exact bodyPost_ret (v := .agg #[.slice A0 d.s0.length c0, .slice A1 d.s1.length c1, .slice Al d.late.length cl]) (by simp [results, Try.results26, go_sem, Q1.out.cell 0 rfl, Q2.out.cell 1 rfl, Q3.out.cell 2 rfl]) rfl D.out
end Go.Proofs.Ytfacbjldpenpjaa
