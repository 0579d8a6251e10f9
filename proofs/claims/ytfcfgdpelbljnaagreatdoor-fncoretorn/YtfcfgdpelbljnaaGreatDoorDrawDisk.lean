/-
  A drawn disk: what holds while it is drawn, and steps that turn nothing but the reader.
-/
import Derived.Test.YtfcfgdpelbljnaaGreatDoorLDiskLast
import Derived.Test.YtfcfgdpelbljnaaGreatDoorPDiskFlush
import Derived.Test.YtfcfgdpelbljnaaGreatDoorDiskFall
set_option maxRecDepth 100000
namespace Go.Proofs.YtfcfgdpelbljnaaGreatDoor
open Go.ChangeShapes Go.WideShapes Go.ChangeAt Go.RowKit Go.Proofs.Palim

/-- A small disk: what the draws keep to. -/
structure Tiny (d : DiskM) : Prop where
  short : DiskShort d
  n0 : d.s0.length ≤ 100
  n1 : d.s1.length ≤ 100
  nl : d.late.length ≤ 600
theorem tiny_no : Tiny noDisk := ⟨short_no, by simp [noDisk], by simp [noDisk], by simp [noDisk]⟩
theorem tiny_open {n : Int} (h : n ≤ 100) : Tiny (openM n) := by
  refine ⟨short_open n, ?_, ?_, ?_⟩ <;> (unfold openM; split <;> simp [noDisk]; try omega)
theorem tiny_write {d : DiskM} {side at_ : Int} {text : ByteArray} (ht : text.size ≤ 1048576) (h : Tiny d) : Tiny (writeM d side at_ text) := by
  refine ⟨short_write ht h.short, ?_, ?_, ?_⟩
  · unfold writeM
    split
    · exact h.n0
    · split
      · exact h.n0
      · simp [noDisk]
  · unfold writeM
    split
    · exact h.n1
    · split
      · exact h.n1
      · simp [noDisk]
  · unfold writeM
    split
    · rename_i hc
      have h1 := hc.1.2.2.2.1
      have h2 := hc.2.2
      simp only [List.length_append, List.length_singleton]
      omega
    · split
      · exact h.nl
      · simp [noDisk]
theorem tiny_fall {d : DiskM} {fs : List Int} (h : Tiny d) : Tiny (fallM d fs) := by
  have hl := fallAll_len (pairs d.late fs) (d.s0, d.s1)
  refine ⟨short_fall h.short, ?_, ?_, ?_⟩
  · unfold fallM
    split
    · rw [hl.1]; exact h.n0
    · simp [noDisk]
  · unfold fallM
    split
    · rw [hl.2]; exact h.n1
    · simp [noDisk]
  · unfold fallM
    split <;> simp [noDisk]

theorem tiny_flush {d : DiskM} (h : Tiny d) : Tiny (flushM d) := by
  have hl := layAll_len d.late (d.s0, d.s1)
  refine ⟨short_flush h.short, ?_, ?_, ?_⟩
  · unfold flushM
    split
    · rw [hl.1]; exact h.n0
    · simp [noDisk]
  · unfold flushM
    split
    · rw [hl.2]; exact h.n1
    · simp [noDisk]
  · unfold flushM
    split <;> simp [noDisk]

/-- A pick, seen from outside: the reader alone is turned. -/
theorem pick_op (g k m : Nat) (w : World) (hr : Rd w g k) (hk : k ≤ 1000000) (hm : m ≤ 2147483647) (hm0 : 0 < m) :
    Calls Tryz.prog 36 #[.pointer (some ⟨g, 0, none⟩), .int .i64 (m : Int)] w fun e w' => ∃ r : Nat, r < m ∧ e = .returned (.int .i64 (r : Int)) ∧ w.grownBy w' (some g) ∧ Rd w' g (k + 1) := by
  refine (pick_any g k m w hr hk hm).mono ?_
  rintro e w' ⟨r, q, h, rfl, rfl⟩
  exact ⟨r, by omega, rfl, grown_pick (World.grownBy.refl w (some g)) _ q, hr.next q⟩
theorem num_op (g k h L : Nat) (zs : List Int) (t : TypeId) (fr : Nat × Nat) (w : World) (hr : Rd w g k) (hk : k ≤ 1000000) (hh : w.heap[h]? = some (.cells (ics zs).toArray t fr)) (hgh : h ≠ g) (hL : zs.length = L) (hs0 : 0 < L) (hs1 : L ≤ 1000) :
    Calls Tryz.prog 13 #[.pointer (some ⟨g, 0, none⟩), .slice (some ⟨h, 0, none⟩) L L] w fun e w' => ∃ z : Int, z ∈ zs ∧ e = .returned (.int .i64 z) ∧ w.grownBy w' (some g) ∧ Rd w' g (k + 1) := by
  refine (num_any g k h L zs t fr w hr hk hh hgh hL hs0 hs1).mono ?_
  rintro e w' ⟨z, q, hz, rfl, rfl⟩
  exact ⟨z, hz, rfl, grown_pick (World.grownBy.refl w (some g)) _ q, hr.next q⟩

theorem box_grownG {w w' : World} {b g : Nat} {vs : List Value} (h : Box w b vs) (hg : w.grownBy w' (some g)) (hb : b ≠ g) : Box w' b vs := h.kept (hg.block b h.lt (fun e => hb (Option.some.inj e)))
theorem DiskOwn.grownG {w w' : World} {C g : Nat} {v0 v1 vl : Value} {d : DiskM} (h : DiskOwn w C v0 v1 vl d) (hg : w.grownBy w' (some g)) (hC : g < C) : DiskOwn w' C v0 v1 vl d := h.kept fun b hb hc => hg.block b hb (fun e => by have := Option.some.inj e; omega)
theorem grown_trans {a b c : World} {g : Nat} (h : a.grownBy b (some g)) (k : b.grownBy c (some g)) : a.grownBy c (some g) :=
  ⟨k.os.trans h.os, k.tape.trans h.tape, k.output.trans h.output, Nat.le_trans h.size k.size, fun i hi hne => (k.block i (Nat.lt_of_lt_of_le hi h.size) hne).trans (h.block i hi hne)⟩
theorem grown_below {a b c : World} {g : Nat} (h : a.grownBy b (some g)) (k : Below b.heap.size b c) : a.grownBy c (some g) :=
  ⟨k.os.trans h.os, k.tape.trans h.tape, k.output.trans h.output, Nat.le_trans h.size k.size, fun i hi hne => (k.block i (Nat.lt_of_lt_of_le hi h.size)).trans (h.block i hi hne)⟩
theorem Rd.below {w w' : World} {g k : Nat} (h : Rd w g k) (hb : Below w.heap.size w w') : Rd w' g k := h.kept fun b hb' => hb.block b (by have := h.lt; omega)

/-- What holds while a disk is drawn into the box x. -/
structure LD (w wr : World) (g x kk : Nat) (u0 u1 ul : Value) (d : DiskM) : Prop where
  xr : Box wr w.heap.size [.slice none 0 0, .slice none 0 0, .slice none 0 0]
  xo : Box wr x [u0, u1, ul]
  own : DiskOwn wr (w.heap.size + 1) u0 u1 ul d
  nx : ¬ DTurns u0 u1 ul x
  hx : w.heap.size + 1 ≤ x
  rd : Rd wr g kk
  gr : w.grownBy wr (some g)
  tiny : Tiny d
  hg : g < w.heap.size
theorem LD.grown {w wr w2 : World} {g x kk k2 : Nat} {u0 u1 ul : Value} {d : DiskM} (h : LD w wr g x kk u0 u1 ul d) (hg : wr.grownBy w2 (some g)) (hr : Rd w2 g k2) : LD w w2 g x k2 u0 u1 ul d :=
  ⟨box_grownG h.xr hg (by have := h.hg; omega), box_grownG h.xo hg (by have := h.hg; have := h.hx; omega), h.own.grownG hg (by have := h.hg; omega), h.nx, h.hx, hr, grown_trans h.gr hg, h.tiny, h.hg⟩
theorem LD.below {w wr w2 : World} {g x kk : Nat} {u0 u1 ul : Value} {d : DiskM} (h : LD w wr g x kk u0 u1 ul d) (hb : Below wr.heap.size wr w2) : LD w w2 g x kk u0 u1 ul d :=
  ⟨h.xr.below hb h.xr.lt, h.xo.below hb h.xo.lt, h.own.below hb, h.nx, h.hx, h.rd.below hb, grown_below h.gr hb, h.tiny, h.hg⟩
theorem grown_set {a b : World} {g x : Nat} (h : a.grownBy b (some g)) (hx : a.heap.size ≤ x) (j : Nat) (u : Value) : a.grownBy (b.setCell ⟨x, j, none⟩ u) (some g) :=
  ⟨h.os, h.tape, h.output, by simpa [World.setCell] using h.size, fun i hi hne => (Below.heap_setCell b _ u i (by simp; omega)).trans (h.block i hi hne)⟩
/-- Another disk laid into the box. -/
theorem LD.put {w wr : World} {g x kk : Nat} {u0 u1 ul s0 s1 sl : Value} {d d' : DiskM} (h : LD w wr g x kk u0 u1 ul d) (ho : DiskOwn wr (w.heap.size + 1) s0 s1 sl d') (nx : ¬ DTurns s0 s1 sl x) (ht : Tiny d') :
    LD w (((wr.setCell ⟨x, 0, none⟩ s0).setCell ⟨x, 1, none⟩ s1).setCell ⟨x, 2, none⟩ sl) g x kk s0 s1 sl d' := by
  have hx := h.hx
  have hg := h.hg
  refine ⟨((h.xr.other (by simp; omega) _).other (by simp; omega) _).other (by simp; omega) _, ((h.xo.set 0 s0).set 1 s1).set 2 sl, ?_, nx, hx, ?_, grown_set (grown_set (grown_set h.gr (by omega) 0 s0) (by omega) 1 s1) (by omega) 2 sl, ht, hg⟩
  · have hk : ∀ b, b ≠ x → (((wr.setCell ⟨x, 0, none⟩ s0).setCell ⟨x, 1, none⟩ s1).setCell ⟨x, 2, none⟩ sl).heap[b]? = wr.heap[b]? := fun b hb => by
      rw [Below.heap_setCell _ _ _ _ hb, Below.heap_setCell _ _ _ _ hb, Below.heap_setCell _ _ _ _ hb]
    exact ⟨own_kept ho.o0 fun b e => hk b (fun e' => nx (Or.inl (e' ▸ e))), own_kept ho.o1 fun b e => hk b (fun e' => nx (Or.inr (Or.inl (e' ▸ e)))), own_kept ho.ol fun b e => hk b (fun e' => nx (Or.inr (Or.inr (e' ▸ e)))), ho.p01, ho.p0l, ho.p1l⟩
  · refine h.rd.kept fun b hb => ?_
    rw [Below.heap_setCell _ _ _ _ (by simp; omega), Below.heap_setCell _ _ _ _ (by simp; omega), Below.heap_setCell _ _ _ _ (by simp; omega)]
end Go.Proofs.YtfcfgdpelbljnaaGreatDoor
