/-
  Disks as values: what they read as, which of them a call owns, and the laws' helpers on them.
-/
import Derived.Test.YtobjgdnmlibofaaGreatA2E
import Derived.Test.YtobjgdnmlibofaaGreatA2M
set_option maxRecDepth 100000
namespace Go.Proofs.YtobjgdnmlibofaaGreat
open Go.ChangeShapes Go.WideShapes Go.ChangeAt Go.RowKit Go.Proofs.Palim

structure DiskM where
  s0 : List ByteArray
  s1 : List ByteArray
  late : List LateM

/-- The block of a value lies below B. -/
def Low (B : Nat) (v : Value) : Prop := ∀ b, v.ownBlock = some b → b < B
theorem Low.mono {B B' : Nat} {v : Value} (h : Low B v) (hB : B ≤ B') : Low B' v := fun b e => Nat.lt_of_lt_of_le (h b e) hB
theorem low_of_own {w : World} {base e sz n : Nat} {v : Value} {xs : List Value} (h : w.ownsRow base e sz v n xs) : Low w.heap.size v := fun b e => (h.lt b e).2

/-- Three slices that read as a disk. -/
structure DiskR (w : World) (v0 v1 vl : Value) (d : DiskM) : Prop where
  r0 : Sl w 1 v0 d.s0.length (scs d.s0)
  r1 : Sl w 1 v1 d.s1.length (scs d.s1)
  rl : Sl w 3 vl d.late.length (lcs d.late)
  l0 : Low w.heap.size v0
  l1 : Low w.heap.size v1
  ll : Low w.heap.size vl
theorem DiskR.below {w w' : World} {v0 v1 vl : Value} {d : DiskM} (h : DiskR w v0 v1 vl d) (hb : Below w.heap.size w w') : DiskR w' v0 v1 vl d :=
  ⟨h.r0.below hb h.l0, h.r1.below hb h.l1, h.rl.below hb h.ll, h.l0.mono hb.size, h.l1.mono hb.size, h.ll.mono hb.size⟩
/-- Three slices of the call's own, apart from one another, that read as a disk. -/
structure DiskOwn (w : World) (base : Nat) (v0 v1 vl : Value) (d : DiskM) : Prop where
  o0 : w.ownsRow base 9 1 v0 d.s0.length (scs d.s0)
  o1 : w.ownsRow base 9 1 v1 d.s1.length (scs d.s1)
  ol : w.ownsRow base 81 3 vl d.late.length (lcs d.late)
  p01 : Apart v0 v1
  p0l : Apart v0 vl
  p1l : Apart v1 vl
theorem DiskOwn.reads {w : World} {base : Nat} {v0 v1 vl : Value} {d : DiskM} (h : DiskOwn w base v0 v1 vl d) : DiskR w v0 v1 vl d :=
  ⟨sl_of_own h.o0, sl_of_own h.o1, sl_of_own h.ol, low_of_own h.o0, low_of_own h.o1, low_of_own h.ol⟩
theorem DiskOwn.kept {w w' : World} {base : Nat} {v0 v1 vl : Value} {d : DiskM} (h : DiskOwn w base v0 v1 vl d) (hb : ∀ b, b < w.heap.size → base ≤ b → w'.heap[b]? = w.heap[b]?) : DiskOwn w' base v0 v1 vl d :=
  ⟨own_kept h.o0 fun b e => hb b (h.o0.lt b e).2 (h.o0.lt b e).1, own_kept h.o1 fun b e => hb b (h.o1.lt b e).2 (h.o1.lt b e).1, own_kept h.ol fun b e => hb b (h.ol.lt b e).2 (h.ol.lt b e).1, h.p01, h.p0l, h.p1l⟩
theorem DiskOwn.below {w w' : World} {base : Nat} {v0 v1 vl : Value} {d : DiskM} (h : DiskOwn w base v0 v1 vl d) (hb : Below w.heap.size w w') : DiskOwn w' base v0 v1 vl d := h.kept fun b hb' _ => hb.block b hb'
theorem DiskOwn.base {w : World} {base base' : Nat} {v0 v1 vl : Value} {d : DiskM} (h : DiskOwn w base v0 v1 vl d) (hb : base' ≤ base) : DiskOwn w base' v0 v1 vl d :=
  ⟨own_base h.o0 hb, own_base h.o1 hb, own_base h.ol hb, h.p01, h.p0l, h.p1l⟩
/-- Short enough for the laws. -/
structure DiskShort (d : DiskM) : Prop where
  n0 : d.s0.length ≤ 1048576
  n1 : d.s1.length ≤ 1048576
  nl : d.late.length ≤ 1048576
  z0 : ∀ s ∈ d.s0, s.size ≤ 1048576
  z1 : ∀ s ∈ d.s1, s.size ≤ 1048576
  zl : ∀ x ∈ d.late, x.text.size ≤ 1048576

theorem own4 {w : World} {base e sz n : Nat} {v : Value} {xs : List Value} (h : w.ownsRow base e sz v n xs) {a b c d : Addr} {x y z u : Value} (ha : a.block < base) (hb : b.block < base) (hc : c.block < base) (hd : d.block < base) :
    ((((w.setCell a x).setCell b y).setCell c z).setCell d u).ownsRow base e sz v n xs :=
  ownsRow_setCell_below (ownsRow_setCell_below (ownsRow_setCell_below (ownsRow_setCell_below h ha _) hb _) hc _) hd _

def NewDisk (w : World) (d : DiskM) (e : Ending) (w' : World) : Prop :=
  ∃ v0 v1 vl, e = .returned (.agg #[v0, v1, vl]) ∧ DiskOwn w' w.heap.size v0 v1 vl d ∧ Below w.heap.size w w'

set_option maxHeartbeats 400000 in
theorem toDisk_any (v0 v1 vl : Value) (d : DiskM) (w : World) (h : DiskR w v0 v1 vl d) (hs : DiskShort d) :
    Calls Tryz.prog 27 #[.agg #[v0, v1, vl]] w (NewDisk w d) := by
  have HD := Lib.hid h
  have HS := Lib.hid hs
  clear h hs
  go_enter Tryz.func27, Tryz.ntmps27
  go_wp2_with fail
  obtain ⟨hA, hR, hU, hsz, hB⟩ := box3 w #[v0, v1, vl] #[.slice none 0 0, .slice none 0 0, .slice none 0 0] #[.slice none 0 0, .slice none 0 0, .slice none 0 0] 26 39 39
  have HD1 := Lib.hid (HD.out.below hB)
  refine (toStringSA2_any v0 v1 d.s0 d.s1 _ HD1.out.r0 HD1.out.r1 HD1.out.l0 HD1.out.l1 HS.out.n0 HS.out.n1).mono ?_
  rintro e w2 ⟨u0, u1, rfl, ho0, ho1, hp, hb⟩
  have HA := Lib.hid (hA.below hb (by omega))
  have HR := Lib.hid (hR.below hb (by omega))
  have HU := Lib.hid (hU.below hb (by omega))
  have HB := Lib.hid (hB.trans (hb.mono (by omega)))
  have HD2 := Lib.hid (HD1.out.below hb)
  have hsz2 : w.heap.size + 3 ≤ w2.heap.size := by have := hb.size; omega
  obtain ⟨_, A0, c0, rfl, _⟩ := sl_of_own ho0
  obtain ⟨_, A1, c1, rfl, _⟩ := sl_of_own ho1
  have HO0 := Lib.hid (own_base ho0 (base' := w.heap.size + 3) (by omega))
  have HO1 := Lib.hid (own_base ho1 (base' := w.heap.size + 3) (by omega))
  have HP := Lib.hid hp
  clear ho0 ho1 hp hb hA hR hU hB HD1 hsz
  obtain ⟨x0, x1, x2⟩ := HA.out.three
  obtain ⟨y0, y1, y2⟩ := HU.out.three
  have f0 := HU.out.open_ 0
  have f1 := HU.out.open_ 1
  go_wp2_with fail
  have hu3 := (HU.out.set 0 (.slice A0 d.s0.length c0)).set 1 (.slice A1 d.s1.length c1)
  have hr3 := (HR.out.other (p := ⟨w.heap.size + 1 + 1, 0, none⟩) (by simp) (.slice A0 d.s0.length c0)).other (p := ⟨w.heap.size + 1 + 1, 1, none⟩) (by simp) (.slice A1 d.s1.length c1)
  have hb3 := (HB.out.setCell (p := ⟨w.heap.size + 1 + 1, 0, none⟩) (by simp; omega) (.slice A0 d.s0.length c0)).setCell (p := ⟨w.heap.size + 1 + 1, 1, none⟩) (by simp; omega) (.slice A1 d.s1.length c1)
  have ho0 := ownsRow_setCell_below (ownsRow_setCell_below HO0.out (a := ⟨w.heap.size + 1 + 1, 0, none⟩) (by simp) (.slice A0 d.s0.length c0)) (a := ⟨w.heap.size + 1 + 1, 1, none⟩) (by simp) (.slice A1 d.s1.length c1)
  have ho1 := ownsRow_setCell_below (ownsRow_setCell_below HO1.out (a := ⟨w.heap.size + 1 + 1, 0, none⟩) (by simp) (.slice A0 d.s0.length c0)) (a := ⟨w.heap.size + 1 + 1, 1, none⟩) (by simp) (.slice A1 d.s1.length c1)
  have hsz3 : w.heap.size + 3 ≤ ((w2.setCell ⟨w.heap.size + 1 + 1, 0, none⟩ (.slice A0 d.s0.length c0)).setCell ⟨w.heap.size + 1 + 1, 1, none⟩ (.slice A1 d.s1.length c1)).heap.size := by simpa using hsz2
  refine (toDiskLateS_any vl d.late _ (HD.out.rl.below hb3 HD.out.ll) (HD.out.ll.mono hb3.size) HS.out.nl).mono ?_
  rintro e w3 ⟨ul, rfl, hol, hb⟩
  have HR3 := Lib.hid (hr3.below hb (by omega))
  have HU3 := Lib.hid (hu3.below hb (by omega))
  have HB3 := Lib.hid (hb3.trans (hb.mono (by omega)))
  have HP0 := Lib.hid (show Apart _ ul from fun g e e' => by have := (ho0.lt g e).2; have := (hol.lt g e').1; omega)
  have HP1 := Lib.hid (show Apart _ ul from fun g e e' => by have := (ho1.lt g e).2; have := (hol.lt g e').1; omega)
  have HO0' := Lib.hid (own_kept ho0 (w' := w3) (fun b e => hb.block b (ho0.lt b e).2))
  have HO1' := Lib.hid (own_kept ho1 (w' := w3) (fun b e => hb.block b (ho1.lt b e).2))
  have HOL := Lib.hid (own_base hol (base' := w.heap.size + 3) hsz3)
  obtain ⟨_, Al, cl, rfl, _⟩ := sl_of_own hol
  clear hu3 hr3 hb3 ho0 ho1 hsz3 hol hb HO0 HO1 HA HR HU HB HD2 hsz2 x0 x1 x2 y0 y1 y2 f0 f1
  obtain ⟨y0, y1, y2⟩ := HU3.out.three
  obtain ⟨z0, z1, z2⟩ := HR3.out.three
  have f2 := HU3.out.open_ 2
  have g0 := HR3.out.open_ 0
  have g1 := HR3.out.open_ 1
  have g2 := HR3.out.open_ 2
  go_wp2
  have q1 := (HR3.out.other (p := ⟨w.heap.size + 1 + 1, 2, none⟩) (by simp) (.slice Al d.late.length cl)).set 0 (.slice A0 d.s0.length c0)
  have q2 := q1.set 1 (.slice A1 d.s1.length c1)
  have q3 := q2.set 2 (.slice Al d.late.length cl)
  refine bodyPost_ret (v := .agg #[.slice A0 d.s0.length c0, .slice A1 d.s1.length c1, .slice Al d.late.length cl]) (by simp [results, Tryz.results27, go_sem, q1.cell 0 rfl, q2.cell 1 rfl, q3.cell 2 rfl]) rfl ⟨_, _, _, rfl, ?_, ?_⟩
  · exact ⟨own_base (own4 HO0'.out (by simp) (by simp) (by simp) (by simp)) (by omega), own_base (own4 HO1'.out (by simp) (by simp) (by simp) (by simp)) (by omega), own_base (own4 HOL.out (by simp) (by simp) (by simp) (by simp)) (by omega), HP.out, HP0.out, HP1.out⟩
  · exact (((HB3.out.setCell (by simp; omega) _).setCell (by simp) _).setCell (by simp) _).setCell (by simp) _
end Go.Proofs.YtobjgdnmlibofaaGreat
