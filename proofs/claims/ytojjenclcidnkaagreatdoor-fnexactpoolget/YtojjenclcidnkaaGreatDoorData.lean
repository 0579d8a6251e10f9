/-
  Texts joined into one.
-/
import Derived.Test.YtojjenclcidnkaaGreatDoorDiskOk
import Derived.Test.YtojjenclcidnkaaGreatDoorBase
import Derived.OpenShut
import Derived.Deep.Strs
import Derived.ChangeSame
import Derived.WalkKit
import Derived.ProofKit
import Derived.Lib.Hide
import Derived.WalkSpells
import Derived.WalkSmall
import Derived.RegionCalls
import Derived.Deep.RegionHeld3
import Derived.Laws.Pointers
import Derived.Test.YtojjenclcidnkaaGreatDoorRows

/-
  spec's DiskOpen.
-/
set_option maxRecDepth 100000
namespace Go.Proofs.YtojjenclcidnkaaGreatDoor
open Go.ChangeShapes Go.WideShapes Go.ChangeAt Go.RowKit Go.Proofs.Palim

def noDisk : DiskM := ⟨[], [], []⟩
def openM (n : Int) : DiskM := if n < 1 ∨ n > 120 then noDisk else ⟨List.replicate n.toNat ⟨#[]⟩, List.replicate n.toNat ⟨#[]⟩, []⟩

theorem noDisk_own (w : World) (base : Nat) : DiskOwn w base (.slice none 0 0) (.slice none 0 0) (.slice none 0 0) noDisk :=
  ⟨⟨rfl, .inl ⟨rfl, rfl⟩⟩, ⟨rfl, .inl ⟨rfl, rfl⟩⟩, ⟨rfl, .inl ⟨rfl, rfl⟩⟩, fun _ e => by simp [Value.ownBlock] at e, fun _ e => by simp [Value.ownBlock] at e, fun _ e => by simp [Value.ownBlock] at e⟩

/-- A new slice of n empty strings. -/
theorem makeStrs (n : Nat) (hn : n ≤ 1048576) (w : World) :
    (Instr.makeSlice 22 (.int .i64 (n : Int)) (.int .i64 (n : Int))).run Tryz.prog w = .ok (.slice (some ⟨w.heap.size, 0, none⟩) n n) (w.alloc (.cells (madeCells #[.string ⟨#[]⟩] n) 9)) := by
  obtain ⟨i0, hi, hz0, hz1, hz2⟩ := info_parts infoStr
  have h := run_make (P := Tryz.prog) w 22 9 i0 _ Tryz.underlying22 hi hz0 .i64 .i64 n n (by omega) (by omega) (by rw [hz2]; omega) (by omega)
  simp only [Int.toNat_natCast, hz1, Nat.mul_one] at h
  exact h
theorem made_strs (n : Nat) : (madeCells #[Value.string ⟨#[]⟩] n).toList = scs (List.replicate n ⟨#[]⟩) := by
  apply List.ext_getElem
  · simp [madeCells, scs]
  · intro i h1 h2
    simp [madeCells, scs, Nat.mod_one]
theorem heap3 (w : World) (a b c : Obj) : (((w.alloc a).alloc b).alloc c).heap[w.heap.size + 1]? = some b ∧ (((w.alloc a).alloc b).alloc c).heap[w.heap.size + 1 + 1]? = some c := by
  constructor
  · rw [Below.heap_alloc _ _ _ (by simp)]
    have h : ((w.alloc a).heap.push b)[(w.alloc a).heap.size]? = some b := Array.getElem?_push_size
    rwa [show (w.alloc a).heap.size = w.heap.size + 1 by simp] at h
  · have h : (((w.alloc a).alloc b).heap.push c)[((w.alloc a).alloc b).heap.size]? = some c := Array.getElem?_push_size
    rwa [show ((w.alloc a).alloc b).heap.size = w.heap.size + 1 + 1 by simp] at h
theorem own_new {w : World} {base b e sz n : Nat} {c : Array Value} (h : w.heap[b]? = some (.cells c e (0, 0))) (hc : c.size = n * sz) (hn : n ≤ maxLen) (hb : base ≤ b) : w.ownsRow base e sz (.slice (some ⟨b, 0, none⟩) n n) n c.toList := by
  refine ⟨by simpa using hc, .inr ⟨b, n, c, rfl, hb, h, Nat.le_refl _, hn, by omega, ?_⟩⟩
  rw [List.take_of_length_le (by simp [hc])]
theorem own_made {w : World} {base b m : Nat} (h : w.heap[b]? = some (.cells (madeCells #[.string ⟨#[]⟩] m) 9 (0, 0))) (hn : m ≤ maxLen) (hb : base ≤ b) :
    w.ownsRow base 9 1 (.slice (some ⟨b, 0, none⟩) m m) (List.replicate m (⟨#[]⟩ : ByteArray)).length (scs (List.replicate m ⟨#[]⟩)) := by
  have h := own_new (sz := 1) h (by simp [size_madeCells]) hn hb
  rw [made_strs] at h
  rwa [List.length_replicate]

end Go.Proofs.YtojjenclcidnkaaGreatDoor

/-
  What the laws on disks have in common.
-/
set_option maxRecDepth 100000
namespace Go.Proofs.YtojjenclcidnkaaGreatDoor
open Go.ChangeShapes Go.WideShapes Go.ChangeAt Go.RowKit Go.Proofs.Palim

/-- The blocks of a disk lie below B. -/
structure DiskLow (B : Nat) (v0 v1 vl : Value) : Prop where
  l0 : Low B v0
  l1 : Low B v1
  ll : Low B vl
theorem DiskLow.mono {B B' : Nat} {v0 v1 vl : Value} (h : DiskLow B v0 v1 vl) (hB : B ≤ B') : DiskLow B' v0 v1 vl := ⟨h.l0.mono hB, h.l1.mono hB, h.ll.mono hB⟩
theorem DiskR.low {w : World} {v0 v1 vl : Value} {d : DiskM} (h : DiskR w v0 v1 vl d) : DiskLow w.heap.size v0 v1 vl := ⟨h.l0, h.l1, h.ll⟩
/-- A disk that lies below another one reads as it did when that one has been marked. -/
theorem DiskR.past {w w' : World} {v0 v1 vl u0 u1 ul : Value} {d d' : DiskM} {B : Nat} (h : DiskR w v0 v1 vl d) (ht : Turned (DTurns u0 u1 ul) w w') (hl : DiskLow B v0 v1 vl) (ho : DiskOwn w B u0 u1 ul d') : DiskR w' v0 v1 vl d := by
  have hn : ∀ b, b < B → ¬ DTurns u0 u1 ul b := by
    rintro b hb (e | e | e)
    · have := (ho.o0.lt b e).1; omega
    · have := (ho.o1.lt b e).1; omega
    · have := (ho.ol.lt b e).1; omega
  exact ⟨h.r0.kept fun b e => ht.block b (h.l0 b e) (hn b (hl.l0 b e)), h.r1.kept fun b e => ht.block b (h.l1 b e) (hn b (hl.l1 b e)), h.rl.kept fun b e => ht.block b (h.ll b e) (hn b (hl.ll b e)), h.l0.mono ht.size, h.l1.mono ht.size, h.ll.mono ht.size⟩
theorem DiskOwn.forms {w : World} {base : Nat} {v0 v1 vl : Value} {d : DiskM} (h : DiskOwn w base v0 v1 vl d) : ∃ A0 c0 A1 c1 Al cl, v0 = .slice A0 d.s0.length c0 ∧ v1 = .slice A1 d.s1.length c1 ∧ vl = .slice Al d.late.length cl := by
  obtain ⟨_, A0, c0, rfl, _⟩ := sl_of_own h.o0
  obtain ⟨_, A1, c1, rfl, _⟩ := sl_of_own h.o1
  obtain ⟨_, Al, cl, rfl, _⟩ := sl_of_own h.ol
  exact ⟨_, _, _, _, _, _, rfl, rfl, rfl⟩
/-- Below B nothing turns when a disk at or above B is marked. -/
theorem below_past {w w' : World} {u0 u1 ul : Value} {d' : DiskM} {B : Nat} (ht : Turned (DTurns u0 u1 ul) w w') (ho : DiskOwn w B u0 u1 ul d') (hB : B ≤ w.heap.size) : Below B w w' :=
  ht.below (fun b hb _ => by
    rintro (e | e | e)
    · have := (ho.o0.lt b e).1; omega
    · have := (ho.o1.lt b e).1; omega
    · have := (ho.ol.lt b e).1; omega) hB

theorem short_no : DiskShort noDisk := ⟨by simp [noDisk], by simp [noDisk], by simp [noDisk], by simp [noDisk], by simp [noDisk], by simp [noDisk]⟩
theorem short_open (n : Int) : DiskShort (openM n) := by
  unfold openM
  split
  · exact short_no
  · refine ⟨by simp; omega, by simp; omega, by simp, ?_, ?_, by simp⟩
    all_goals
      intro s hs
      rw [List.eq_of_mem_replicate hs]
      exact Nat.zero_le _

/-- The count of marks of a disk, from k on. -/
def dmend (k : Nat) (d : DiskM) : Nat := k + d.s0.length + d.s1.length + 3 * d.late.length
theorem dmend_small {d : DiskM} (hs : DiskShort d) {k : Nat} (hk : k ≤ 80000000) : dmend k d ≤ 90000000 := by have := hs.n0; have := hs.n1; have := hs.nl; unfold dmend; omega
/-- A disk in a box of its own: what the law's variables are. -/
structure Boxed (w : World) (x B : Nat) (v0 v1 vl : Value) (d : DiskM) : Prop where
  box : Box w x [v0, v1, vl]
  low : DiskLow B v0 v1 vl
  reads : DiskR w v0 v1 vl d
  lt : B ≤ x
theorem Boxed.below {w w' : World} {x B : Nat} {v0 v1 vl : Value} {d : DiskM} (h : Boxed w x B v0 v1 vl d) (hb : Below w.heap.size w w') : Boxed w' x B v0 v1 vl d := ⟨h.box.below hb h.box.lt, h.low, h.reads.below hb, h.lt⟩
theorem DiskOwn.past {w : World} {C x : Nat} {u0 u1 ul : Value} {d : DiskM} (h : DiskOwn w C u0 u1 ul d) (hx : x < C) : ¬ DTurns u0 u1 ul x := by
  rintro (e | e | e)
  · have := (h.o0.lt x e).1; omega
  · have := (h.o1.lt x e).1; omega
  · have := (h.ol.lt x e).1; omega
theorem DiskLow.past {B x : Nat} {u0 u1 ul : Value} (h : DiskLow B u0 u1 ul) (hx : B ≤ x) : ¬ DTurns u0 u1 ul x := by
  rintro (e | e | e)
  · have := h.l0 x e; omega
  · have := h.l1 x e; omega
  · have := h.ll x e; omega
theorem Boxed.past {w w' : World} {x B C : Nat} {v0 v1 vl u0 u1 ul : Value} {d d' : DiskM} (h : Boxed w x B v0 v1 vl d) (ht : Turned (DTurns u0 u1 ul) w w') (ho : DiskOwn w C u0 u1 ul d') (hx : x < C) : Boxed w' x B v0 v1 vl d :=
  ⟨h.box.turned ht (ho.past hx), h.low, h.reads.past ht (h.low.mono (by have := h.lt; omega)) ho, h.lt⟩
theorem boxed_new {w : World} {v0 v1 vl : Value} {d : DiskM} (h : DiskR w v0 v1 vl d) (e : Nat) : Boxed (w.alloc (.cells #[v0, v1, vl] e)) w.heap.size w.heap.size v0 v1 vl d :=
  ⟨box_new _ _ _, h.low, h.below ((Below.refl _ _).alloc (Nat.le_refl _) _), Nat.le_refl _⟩
theorem Below.new {w : World} (o : Obj) : Below w.heap.size w (w.alloc o) := (Below.refl _ _).alloc (Nat.le_refl _) _

end Go.Proofs.YtojjenclcidnkaaGreatDoor

/-
  A disk that came in as an argument, opened: it reads as a disk, and its blocks are there.
-/
set_option maxRecDepth 100000
namespace Go.Proofs.YtojjenclcidnkaaGreatDoor
open Go.ChangeShapes Go.WideShapes Go.ChangeAt Go.RowKit Go.Proofs.Palim Go.Deep

section
variable {H : Type} {enc : TypeId × Value → H} {W : World}

/-- A slice that may come in has its block. -/
theorem low_of_ok {base : Nat} {t e : TypeId} {v : Value} (ht : Tryz.prog.underlying t = some (.slice e)) (h : Cell.okWide Tryz.prog W .any base t v) : Low W.heap.size v := by
  intro b hb
  match v, hb with
  | .slice (some a) n c, hb =>
    simp only [Cell.okWide, ht, Cell.ok] at h
    obtain ⟨_, _, _, _, row, cells, hs, _⟩ := h
    have e : a.block = b := by simpa [Value.ownBlock] using hb
    subst e
    unfold World.shape? at hs
    split at hs
    · rename_i hh
      exact (Array.getElem?_eq_some_iff.1 hh).1
    · cases hs
  | .slice none n c, hb => simp [Value.ownBlock] at hb
  | .pointer (some a), hb => simp [Cell.okWide, ht, Cell.ok] at h

theorem add_none {b off i : Nat} : (⟨b, off, none⟩ : Addr).add i = ⟨b, off + i, none⟩ := by unfold Addr.add; simp

theorem cells9 : Tryz.prog.cellsOf 9 = 1 := by kernel_rfl

/-- A list of strings that came in. -/
theorem strs_of {base fuel : Nat} {v : Value} {x : DataW H × List MemPlace} (ho : Cell.okWide Tryz.prog W .any base 22 v) (h : DataW.trod enc Tryz.prog W 0 (fun _ => true) true fuel 22 [v] = some x) :
    ∃ ss : List ByteArray, Sl W 1 v ss.length (scs ss) ∧ ∀ s ∈ ss, s.size ≤ maxLen := by
  rcases open_strs Tryz.underlying22 Tryz.underlying9 cells9 h with ⟨hcs, _⟩ | ⟨a, len, cap, m, Sx, hcs, _, hl, hm, hmm, _, hcell⟩
  · obtain rfl : v = .slice none 0 0 := by simpa using hcs
    exact ⟨[], ⟨rfl, none, 0, rfl, Nat.le_refl _, Nat.zero_le _, Or.inl rfl⟩, by simp⟩
  · obtain rfl : v = .slice (some a) len cap := by simpa using hcs
    simp only [if_true] at hmm
    subst hmm
    refine ⟨(List.range len).map Sx, ⟨by simp [scs], some a, m, by simp, by simpa using hl, hm, ?_⟩, ?_⟩
    · right
      have hsp : a.spot = none := by
        simp only [Cell.okWide, Tryz.underlying22, Cell.ok] at ho
        exact ho.2.2.2.1
      obtain ⟨b, off, sp⟩ := a
      simp at hsp
      subst hsp
      refine ⟨b, off, rfl, fun j u hu => ?_⟩
      have hj : j < len := by
        have := (List.getElem?_eq_some_iff.1 hu).1
        simpa [scs] using this
      have := (hcell j (by omega)).1
      rw [add_none] at this
      rw [this]
      simpa [scs, hj] using hu
    · intro s hs
      obtain ⟨i, hi, rfl⟩ := List.mem_map.1 hs
      exact (hcell i (by have := List.mem_range.1 hi; omega)).2

theorem cellsLate : Tryz.prog.cellsOf 140 = 3 := by kernel_rfl
theorem cells3 : Tryz.prog.cellsOf 3 = 1 := by kernel_rfl
theorem cells23 : Tryz.prog.cellsOf 22 = 1 := by kernel_rfl
theorem cells24 : Tryz.prog.cellsOf 23 = 2 := by kernel_rfl
theorem cells41 : Tryz.prog.cellsOf 24 = 1 := by kernel_rfl

instance : Inhabited LateM := ⟨⟨0, 0, ⟨#[]⟩⟩⟩

/-- One late write that came in. -/
theorem late_of {fuel : Nat} {cs : List Value} {x : DataW H × List MemPlace} (h : DataW.trod enc Tryz.prog W 0 (fun _ => true) true fuel 140 cs = some x) :
    ∃ l : LateM, cs = lc l ∧ l.text.size ≤ maxLen ∧ (-9223372036854775808 ≤ l.side ∧ l.side ≤ 9223372036854775807) ∧ -9223372036854775808 ≤ l.at_ ∧ l.at_ ≤ 9223372036854775807 := by
  obtain ⟨y0, y1, y2, n, _, hl, t0, t1, t2⟩ := trod_struct3 Tryz.underlying140 h
  rw [cellsLate] at hl
  match cs, hl with
  | [c0, c1, c2], _ =>
    simp only [cells3, cells9, List.drop, List.take] at t0 t1 t2
    obtain ⟨a, ha, _, wa⟩ := DataW.trod_int Tryz.underlying3 t0
    obtain ⟨b, hb, _, wb⟩ := DataW.trod_int Tryz.underlying3 t1
    obtain ⟨s, hs, _, hz⟩ := DataW.trod_string Tryz.underlying9 t2
    simp at ha hb hs
    subst ha hb hs
    exact ⟨⟨a, b, s⟩, rfl, hz, bounds_i64 wa, bounds_i64 wb⟩

/-- Late writes that came in. -/
theorem lates_of {base fuel : Nat} {v : Value} {x : DataW H × List MemPlace} (ho : Cell.okWide Tryz.prog W .any base 24 v) (h : DataW.trod enc Tryz.prog W 0 (fun _ => true) true fuel 24 [v] = some x) :
    ∃ ls : List LateM, Sl W 3 v ls.length (lcs ls) ∧ ∀ l ∈ ls, l.text.size ≤ maxLen ∧ (-9223372036854775808 ≤ l.side ∧ l.side ≤ 9223372036854775807) ∧ -9223372036854775808 ≤ l.at_ ∧ l.at_ ≤ 9223372036854775807 := by
  rcases open_slice Tryz.underlying24 h with ⟨hcs, _⟩ | ⟨a, len, cap, m, n, D, Pl, hcs, _, hl, hm, hmm, _, hx⟩
  · obtain rfl : v = .slice none 0 0 := by simpa using hcs
    exact ⟨[], ⟨rfl, none, 0, rfl, Nat.le_refl _, Nat.zero_le _, Or.inl rfl⟩, by simp⟩
  · obtain rfl : v = .slice (some a) len cap := by simpa using hcs
    simp only [if_true] at hmm
    subst hmm
    have hsp : a.spot = none := by
      simp only [Cell.okWide, Tryz.underlying24, Cell.ok] at ho
      exact ho.2.2.2.1
    obtain ⟨b, off, sp⟩ := a
    simp at hsp
    subst hsp
    rw [cellsLate] at hx
    obtain ⟨L, hL⟩ := choose_lt (α := LateM) (p := fun i l => (W.cell? ⟨b, off + i * 3, none⟩ = some (.int .i64 l.side) ∧ W.cell? ⟨b, off + i * 3 + 1, none⟩ = some (.int .i64 l.at_) ∧ W.cell? ⟨b, off + i * 3 + 2, none⟩ = some (.string l.text)) ∧ l.text.size ≤ maxLen ∧ (-9223372036854775808 ≤ l.side ∧ l.side ≤ 9223372036854775807) ∧ -9223372036854775808 ≤ l.at_ ∧ l.at_ ≤ 9223372036854775807) (n := len) (fun i hi => by
      obtain ⟨cs', h1, h2⟩ := hx i (by omega)
      obtain ⟨l, rfl, hr⟩ := late_of h2
      rw [add_none] at h1
      refine ⟨l, ?_, hr⟩
      obtain ⟨_, _, hc⟩ := World.cells?_some h1
      have h0 := hc 0 (by omega)
      have h1 := hc 1 (by omega)
      have h2 := hc 2 (by omega)
      rw [add_none] at h0 h1 h2
      exact ⟨h0, h1, h2⟩)
    refine ⟨(List.range len).map L, ⟨lcs_length _, some ⟨b, off, none⟩, m, by simp, by simpa using hl, hm, Or.inr ⟨b, off, rfl, fun j u hu => ?_⟩⟩, ?_⟩
    · have hj : j < len * 3 := by
        have h := (List.getElem?_eq_some_iff.1 hu).1
        rw [lcs_length] at h
        simpa using h
      have hk : j / 3 < ((List.range len).map L).length := by simp; omega
      have hat := lcs_at ((List.range len).map L) (j / 3) hk
      have hcl := (hL (j / 3) (by omega)).1
      simp only [List.getElem_map, List.getElem_range] at hat
      have hj3 : j = j / 3 * 3 ∨ j = j / 3 * 3 + 1 ∨ j = j / 3 * 3 + 2 := by omega
      generalize j / 3 = k at hat hcl hj3
      rcases hj3 with rfl | rfl | rfl
      · rw [hat.1] at hu; rw [hcl.1]; exact hu
      · rw [hat.2.1] at hu; rw [← Nat.add_assoc, hcl.2.1]; exact hu
      · rw [hat.2.2] at hu; rw [← Nat.add_assoc, hcl.2.2]; exact hu
    · intro l hl
      obtain ⟨i, hi, rfl⟩ := List.mem_map.1 hl
      exact (hL i (List.mem_range.1 hi)).2

theorem cellsDisk : Tryz.prog.cellsOf 26 = 3 := by kernel_rfl
theorem typesDisk : Tryz.prog.cellTypes Tryz.prog.depth 26 = some [22, 22, 24] := by kernel_rfl

/-- A disk that came in. -/
theorem disk_of {base : Nat} {v : Value} {x : DataW H} {p : List MemPlace} (ho : Value.okWide Tryz.prog W .any base 26 v) (h : DataW.Trod enc Tryz.prog W 0 (fun _ => true) true 26 v x p) :
    ∃ v0 v1 vl d, v = .agg #[v0, v1, vl] ∧ DiskR W v0 v1 vl d ∧ (∀ s ∈ d.s0, s.size ≤ maxLen) ∧ (∀ s ∈ d.s1, s.size ≤ maxLen) ∧ ∀ l ∈ d.late, l.text.size ≤ maxLen := by
  simp only [Value.okWide, Tryz.underlying26] at ho
  obtain ⟨cs, rfl, hsz, hrow⟩ := ho
  rw [cellsDisk] at hsz
  obtain ⟨v0, v1, vl, rfl⟩ : ∃ v0 v1 vl, cs = #[v0, v1, vl] := by
    match cs, hsz with
    | ⟨[v0, v1, vl]⟩, _ => exact ⟨v0, v1, vl, rfl⟩
  obtain ⟨ts, hts, _, hok⟩ := hrow
  obtain rfl := Option.some.inj (typesDisk.symm.trans hts)
  obtain ⟨t0, e0, o0⟩ := hok 0 v0 rfl
  obtain ⟨t1, e1, o1⟩ := hok 1 v1 rfl
  obtain ⟨tl, el, ol⟩ := hok 2 vl rfl
  simp at e0 e1 el
  subst e0 e1 el
  obtain ⟨fuel, hf⟩ := h
  obtain ⟨y0, y1, n, _, _, u0, u1⟩ := trod_struct2 Tryz.underlying26 hf
  simp only [cells24, cells41, Value.cells, List.drop, List.take] at u0 u1
  obtain ⟨xs, m, _, _, _, hlen, hel⟩ := DataW.trod_array Tryz.underlying23 u0
  match xs, hlen with
  | [a, b], _ =>
    have ha := hel 0 (by omega)
    have hb := hel 1 (by omega)
    simp only [cells23] at ha hb
    obtain ⟨ss0, hs0, hz0⟩ := strs_of (enc := enc) o0 ha
    obtain ⟨ss1, hs1, hz1⟩ := strs_of (enc := enc) o1 hb
    obtain ⟨ls, hls, hzl⟩ := lates_of (enc := enc) ol u1
    exact ⟨v0, v1, vl, ⟨ss0, ss1, ls⟩, rfl, ⟨hs0, hs1, hls, low_of_ok Tryz.underlying22 o0, low_of_ok Tryz.underlying22 o1, low_of_ok Tryz.underlying24 ol⟩, hz0, hz1, fun l hl => (hzl l hl).1⟩
end
end Go.Proofs.YtojjenclcidnkaaGreatDoor

/-
  The laws' own helpers on lists of numbers: copied, compared and marked; and such a list that came in as an argument.
-/
set_option maxRecDepth 100000
namespace Go.Proofs.YtojjenclcidnkaaGreatDoor
open Go.ChangeShapes Go.WideShapes Go.ChangeAt Go.RowKit Go.Proofs.Palim Go.Deep

/-- The cells of a list of numbers. -/
def ics (zs : List Int) : List Value := zs.map (Value.int .i64)
theorem ics_length (zs : List Int) : (ics zs).length = zs.length := by simp [ics]
theorem ics_at (zs : List Int) (k : Nat) (h : k < zs.length) : (ics zs)[k]? = some (.int .i64 zs[k]) := by simp [ics, h]
theorem ics_snoc (a : List Int) (z : Int) : ics (a ++ [z]) = ics a ++ [.int .i64 z] := by simp [ics]
theorem infoInt : (Tryz.prog.info? 3).map (fun i => (i.zero, i.size, i.bytes)) = some (some (.int .i64 0), 1, 8) := by kernel_rfl

/-- A new list of numbers of the call's own. -/
def NewInts (w : World) (ss : List Int) (e : Ending) (w' : World) : Prop :=
  ∃ v, e = .returned v ∧ w'.ownsRow w.heap.size 3 1 v ss.length (ics ss) ∧ Below w.heap.size w w'

set_option maxHeartbeats 400000 in
theorem toIntS_any (v : Value) (ss : List Int) (w : World) (h : Sl w 1 v ss.length (ics ss)) (hs : ss.length ≤ 1048576) :
    Calls Tryz.prog 61 #[v] w (NewInts w ss) := by
  obtain ⟨i0, hi, hz0, hz1, hz2⟩ := info_parts infoInt
  obtain ⟨n, HN⟩ : ∃ n, Hid (ss.length = n) := ⟨_, Lib.hid rfl⟩
  rw [HN.out] at h hs
  by_cases hn : n = 0
  · subst hn
    have HE := Lib.hid (List.length_eq_zero_iff.1 HN.out)
    obtain ⟨_, A, c, rfl, _, _, _⟩ := h
    go_enter Tryz.func61, Tryz.ntmps61
    go_wp2_with (first | (at_make; refine wpList_make_full _ rfl _ _ 30 rfl w.heap.size 3 i0 (.int .i64 0) 1 Tryz.underlying30 hi hz0 hz1 _ _ _ _ 0 rfl rfl (by omega) (by omega) (by omega) (by unfold maxLen; omega) (Nat.le_refl _) ?_))
    intro w1 hown hgrow
    go_wp2
    go_loopw [4] (fun i wr => i = .int .i64 0 ∧ wr = w1) (fun _ _ => 0)
    case atStart => exact ⟨rfl, rfl⟩
    case round =>
      obtain ⟨rfl, rfl⟩ := hrel
      go_wp2
      go_ret
      refine ⟨_, rfl, ?_, (Below.refl _ _).grown hgrow (Nat.le_refl _) (fun _ h => by cases h)⟩
      rw [HE.out]
      have e0 := List.length_eq_zero_iff.1 (show (madeCells #[Value.int .i64 0] 0).toList.length = 0 from by simpa using hown.1)
      have h2 := hown
      rw [e0] at h2
      exact h2
  · obtain ⟨b, off, c, rfl, hnc, hcm, hcell⟩ := h.form (by omega)
    have hbl : b < w.heap.size := h.lt (by omega) (by omega) b rfl
    have HC := Lib.hid hcell
    unfold maxLen at hcm
    clear hcell h
    go_enter Tryz.func61, Tryz.ntmps61
    go_wp2_with (first | (at_make; refine wpList_make_full _ rfl _ _ 30 rfl w.heap.size 3 i0 (.int .i64 0) 1 Tryz.underlying30 hi hz0 hz1 _ _ _ _ n rfl rfl rfl rfl (by rw [hz2]; omega) (by unfold maxLen; omega) (Nat.le_refl _) ?_))
    intro w1 hown hgrow
    go_wp2
    go_loopw [4] (fun i wr => ∃ (k : Nat) (xs : List Value), k ≤ n ∧ i = .int .i64 k ∧ Hid (wr.ownsRow w.heap.size 3 1 (.slice (some ⟨w.heap.size, 0, none⟩) n n) n xs) ∧ Hid (xs.take k = ics (ss.take k)) ∧ Hid (Below w.heap.size w wr)) (fun i _ => n - (intOf i).toNat)
    case atStart => exact ⟨0, _, Nat.zero_le _, rfl, Lib.hid hown, Lib.hid rfl, Lib.hid ((Below.refl _ _).grown hgrow (Nat.le_refl _) (fun _ h => by cases h))⟩
    case round =>
      obtain ⟨k, xs, hk, rfl, HO, HT, HB⟩ := hrel
      clear hown hgrow
      by_cases hlt : k < n
      · have hlt' : k < ss.length := by rw [HN.out]; exact hlt
        have hrd : wr.cell? ⟨b, off + k, none⟩ = some (.int .i64 ss[k]) := (HB.out.cell hbl).trans (HC.out k _ (ics_at ss k hlt'))
        obtain ⟨⟨u, _, hcu⟩, hfu, _, _⟩ := own_at HO.out k (by omega)
        have HO2 := Lib.hid (own_set HO.out k (.int .i64 ss[k]))
        have HB2 := Lib.hid (HB.out.setCell (p := ⟨w.heap.size, k, none⟩) (Nat.le_refl _) (.int .i64 ss[k]))
        have HT2 := Lib.hid (show (xs.set k (.int .i64 ss[k])).take (k + 1) = ics (ss.take (k + 1)) from by
          have hl : k < xs.length := by have := HO.out.1; omega
          rw [take_set_succ xs k _ hl, HT.out, List.take_succ_eq_append_getElem hlt', ics_snoc])
        clear HO HT HB
        go_wp2
        go_roundw
        case rel => exact ⟨k + 1, _, by omega, by go_num, HO2, HT2, HB2⟩
        case measure => simp [intOf]; omega
      · have hkn : k = n := by omega
        have HX := Lib.hid (show xs = ics ss from by
          have hl := HO.out.1
          have ht := HT.out
          rw [List.take_of_length_le (by omega), List.take_of_length_le (by rw [HN.out]; omega)] at ht
          exact ht)
        clear hkn
        go_wp2
        go_ret
        refine ⟨_, rfl, ?_, HB.out⟩
        rw [HN.out, ← HX.out]
        exact HO.out

set_option maxHeartbeats 400000 in
theorem eqIntS_same (va vb : Value) (ss : List Int) (w : World) (ha : Sl w 1 va ss.length (ics ss)) (hb : Sl w 1 vb ss.length (ics ss)) (hs : ss.length ≤ 1048576) :
    Calls Tryz.prog 36 #[va, vb] w (Drawn (.bool true) w) := by
  obtain ⟨n, HN⟩ : ∃ n, Hid (ss.length = n) := ⟨_, Lib.hid rfl⟩
  rw [HN.out] at ha hb hs
  by_cases hn : n = 0
  · subst hn
    obtain ⟨_, A, c, rfl, _, _, _⟩ := ha
    obtain ⟨_, A', c', rfl, _, _, _⟩ := hb
    go_enter Tryz.func36, Tryz.ntmps36
    go_wp2
    go_loopw [5] (fun i wr => i = .int .i64 0 ∧ wr = w) (fun _ _ => 0)
    case atStart => exact ⟨rfl, rfl⟩
    case round =>
      obtain ⟨rfl, rfl⟩ := hrel
      go_wp2
      go_ret
      exact ⟨rfl, 0, rfl⟩
  · obtain ⟨b, off, c, rfl, hnc, hcm, hcell⟩ := ha.form (by omega)
    obtain ⟨b', off', c', rfl, hnc', hcm', hcell'⟩ := hb.form (by omega)
    have HC := Lib.hid hcell
    have HC' := Lib.hid hcell'
    unfold maxLen at hcm hcm'
    clear hcell hcell' ha hb
    go_enter Tryz.func36, Tryz.ntmps36
    go_wp2
    go_loopw [5] (fun i wr => ∃ (k q : Nat), k ≤ n ∧ i = .int .i64 k ∧ wr = w.drewN q) (fun i _ => n - (intOf i).toNat)
    case atStart => exact ⟨0, 0, Nat.zero_le _, rfl, rfl⟩
    case round =>
      obtain ⟨k, q, hk, rfl, rfl⟩ := hrel
      by_cases hlt : k < n
      · have hlt' : k < ss.length := by rw [HN.out]; exact hlt
        have h1 : w.cell? ⟨b, off + k, none⟩ = some (.int .i64 ss[k]) := HC.out k _ (ics_at ss k hlt')
        have h2 : w.cell? ⟨b', off' + k, none⟩ = some (.int .i64 ss[k]) := HC'.out k _ (ics_at ss k hlt')
        have hk1 : (k : Int) < (n : Int) := by omega
        go_wp2_with fail
        go_quiet (fail)
        go_wp2
        go_roundw
        case rel => exact ⟨k + 1, _, by omega, by go_num, rfl⟩
        case measure => simp [intOf]; omega
      · go_wp2
        go_ret
        exact ⟨rfl, q, rfl⟩

/-- Marked: the slice is the call's own still, and nothing else that was there has turned. -/
def MarkedI (k : Nat) (v : Value) (base n : Nat) (w : World) (e : Ending) (w' : World) : Prop :=
  e = .returned (.int .i64 ((k + n : Nat) : Int)) ∧ (∃ zs : List Int, zs.length = n ∧ w'.ownsRow base 3 1 v n (ics zs)) ∧ Turned (fun b => v.ownBlock = some b) w w'
def imarks (k n : Nat) : List Int := (List.range n).map fun i => ((k + i : Nat) : Int)
theorem imarks_length (k n : Nat) : (imarks k n).length = n := by simp [imarks]
theorem imarks_succ (k n : Nat) : imarks k (n + 1) = imarks k n ++ [((k + n : Nat) : Int)] := by simp [imarks, List.range_succ]

set_option maxHeartbeats 400000 in
theorem markIntS_any (v : Value) (n k base : Nat) (xs0 : List Value) (w : World) (h : w.ownsRow base 3 1 v n xs0) (hs : n ≤ 1048576) (hk0 : 1 ≤ k) (hk1 : k ≤ 100000000) :
    Calls Tryz.prog 40 #[v, .int .i64 (k : Int)] w (MarkedI k v base n w) := by
  by_cases hn : n = 0
  · subst hn
    obtain ⟨_, A, c, rfl, _, _, _⟩ := sl_of_own h
    have HO := Lib.hid h
    clear h
    go_enter Tryz.func40, Tryz.ntmps40
    go_wp2
    go_loopw [1, 5] (fun l i wr => l = .int .i64 (k : Int) ∧ i = .int .i64 0 ∧ wr = w) (fun _ _ _ => 0)
    case atStart => exact ⟨rfl, rfl, rfl⟩
    case round =>
      obtain ⟨rfl, rfl, rfl⟩ := hrel
      go_wp2
      go_ret
      refine ⟨rfl, ⟨[], rfl, ?_⟩, Turned.refl _ _⟩
      have h0 := HO.out
      have e0 := List.length_eq_zero_iff.1 (show xs0.length = 0 from by simpa using h0.1)
      rw [e0] at h0
      exact h0
  · obtain ⟨g, cap, rfl, hbg, hgl⟩ := h.form (by omega)
    have hcp : cap ≤ maxLen ∧ n ≤ cap := by
      rcases h.2 with ⟨hv, _⟩ | ⟨g', cap', cur, hv, _, _, h1, h2, _⟩
      · cases hv
      · injection hv with e1 e2 e3
        subst e3
        exact ⟨h2, h1⟩
    obtain ⟨hcp1, hcp2⟩ := hcp
    unfold maxLen at hcp1
    have HO0 := Lib.hid h
    clear h
    go_enter Tryz.func40, Tryz.ntmps40
    go_wp2
    go_loopw [1, 5] (fun l i wr => ∃ (j kk : Nat) (xs : List Value), j ≤ n ∧ kk = k + j ∧ l = .int .i64 (kk : Int) ∧ i = .int .i64 (j : Int) ∧ Hid (wr.ownsRow base 3 1 (.slice (some ⟨g, 0, none⟩) n cap) n xs) ∧ Hid (xs.take j = ics (imarks k j)) ∧ Hid (Turned (fun b => b = g) w wr)) (fun _ i _ => n - (intOf i).toNat)
    case atStart => exact ⟨0, k, _, Nat.zero_le _, rfl, rfl, rfl, HO0, Lib.hid rfl, Lib.hid (Turned.refl _ _)⟩
    case round =>
      obtain ⟨j, kk, xs, hj, hkk, rfl, rfl, HO, HT, HW⟩ := hrel
      have HK := Lib.hid hkk
      have hkb : kk ≤ 101048576 := by omega
      have hkb1 : 1 ≤ kk := by omega
      clear hkk
      by_cases hlt : j < n
      · obtain ⟨⟨u, _, hcu⟩, hfu, _, _⟩ := own_at HO.out j (by omega)
        have HO2 := Lib.hid (own_set HO.out j (.int .i64 (kk : Int)))
        have HW2 := Lib.hid (turned_setCell HW.out (p := ⟨g, j, none⟩) rfl (.int .i64 (kk : Int)))
        have HT2 := Lib.hid (show (xs.set j (.int .i64 (kk : Int))).take (j + 1) = ics (imarks k (j + 1)) from by
          have hl : j < xs.length := by have := HO.out.1; omega
          rw [take_set_succ xs j _ hl, HT.out, imarks_succ, ics_snoc, HK.out])
        clear HO HT HW
        go_wp2
        go_roundw
        case rel => exact ⟨j + 1, kk + 1, _, by omega, by have := HK.out; omega, by go_num, by go_num, HO2, HT2, HW2⟩
        case measure => simp [intOf]; omega
      · have hjn : j = n := by omega
        have HX := Lib.hid (show xs = ics (imarks k n) from by
          have hl := HO.out.1
          have ht := HT.out
          rw [List.take_of_length_le (by omega), hjn] at ht
          exact ht)
        have HKN := Lib.hid (show kk = k + n from by rw [HK.out, hjn])
        clear hjn
        go_wp2
        go_ret
        refine ⟨?_, ⟨imarks k n, imarks_length k n, ?_⟩, HW.out.mono ?_⟩
        · exact ret_int (by rw [HKN.out])
        · rw [← HX.out]; exact HO.out
        · rintro b _ rfl; rfl

section
variable {H : Type} {enc : TypeId × Value → H} {W : World}
/-- A list of numbers that came in. -/
theorem ints_of {base fuel : Nat} {v : Value} {x : DataW H × List MemPlace} (ho : Cell.okWide Tryz.prog W .any base 30 v) (h : DataW.trod enc Tryz.prog W 0 (fun _ => true) true fuel 30 [v] = some x) :
    ∃ zs : List Int, Sl W 1 v zs.length (ics zs) := by
  rcases open_slice Tryz.underlying30 h with ⟨hcs, _⟩ | ⟨a, len, cap, m, n, D, Pl, hcs, _, hl, hm, hmm, _, hx⟩
  · obtain rfl : v = .slice none 0 0 := by simpa using hcs
    exact ⟨[], ⟨rfl, none, 0, rfl, Nat.le_refl _, Nat.zero_le _, Or.inl rfl⟩⟩
  · obtain rfl : v = .slice (some a) len cap := by simpa using hcs
    simp only [if_true] at hmm
    subst hmm
    have hsp : a.spot = none := by
      simp only [Cell.okWide, Tryz.underlying30, Cell.ok] at ho
      exact ho.2.2.2.1
    obtain ⟨b, off, sp⟩ := a
    simp at hsp
    subst hsp
    rw [cells3] at hx
    obtain ⟨L, hL⟩ := choose_lt (α := Int) (p := fun i z => W.cell? ⟨b, off + i, none⟩ = some (.int .i64 z)) (n := len) (fun i hi => by
      obtain ⟨cs', h1, h2⟩ := hx i (by omega)
      obtain ⟨z, hz, _, _⟩ := DataW.trod_int Tryz.underlying3 h2
      refine ⟨z, ?_⟩
      rw [add_none] at h1
      obtain ⟨_, _, hc⟩ := World.cells?_some h1
      have h0 := hc 0 (by omega)
      rw [add_none] at h0
      simp only [Nat.mul_one, Nat.add_zero] at h0
      rw [h0, hz]
      rfl)
    refine ⟨(List.range len).map L, ⟨by simp [ics], some ⟨b, off, none⟩, m, by simp, by simpa using hl, hm, Or.inr ⟨b, off, rfl, fun j u hu => ?_⟩⟩⟩
    have hj : j < len := by
      have := (List.getElem?_eq_some_iff.1 hu).1
      simpa [ics] using this
    rw [hL j hj]
    simpa [ics, hj] using hu
end
end Go.Proofs.YtojjenclcidnkaaGreatDoor

/-
  The core as data; the laws' helpers on it.
-/
set_option maxRecDepth 100000
namespace Go.Proofs.YtojjenclcidnkaaGreatDoor
open Go.ChangeShapes Go.WideShapes Go.ChangeAt Go.RowKit Go.Proofs.Palim

structure CoreM where
  txg : Int
  sets : List CSetM
  ddt : List EntM
  parts : List PtrM
  dirty : Bool
  safe : List Int
  logn : Int
/-- Its cells. -/
abbrev kcore (c : CoreM) (vs vd vp vi : Value) : List Value := [.int .i64 c.txg, vs, vd, vp, .bool c.dirty, vi, .int .i64 c.logn]
abbrev cv (c : CoreM) (vs vd vp vi : Value) : Value := .agg #[.int .i64 c.txg, vs, vd, vp, .bool c.dirty, vi, .int .i64 c.logn]
structure CoreR (w : World) (vs vd vp vi : Value) (c : CoreM) : Prop where
  s : Sl w 31 vs c.sets.length (ccs c.sets)
  d : Sl w 3 vd c.ddt.length (ecs c.ddt)
  p : Sl w 3 vp c.parts.length (pcs c.parts)
  i : Sl w 1 vi c.safe.length (ics c.safe)
  ls : Low w.heap.size vs
  ld : Low w.heap.size vd
  lp : Low w.heap.size vp
  li : Low w.heap.size vi
theorem CoreR.below {w w' : World} {vs vd vp vi : Value} {c : CoreM} (h : CoreR w vs vd vp vi c) (hb : Below w.heap.size w w') : CoreR w' vs vd vp vi c :=
  ⟨h.s.below hb h.ls, h.d.below hb h.ld, h.p.below hb h.lp, h.i.below hb h.li, h.ls.mono hb.size, h.ld.mono hb.size, h.lp.mono hb.size, h.li.mono hb.size⟩
structure CoreShort (c : CoreM) : Prop where
  s : c.sets.length ≤ 1048576
  d : c.ddt.length ≤ 1048576
  p : c.parts.length ≤ 1048576
  i : c.safe.length ≤ 1048576
  z : ∀ x ∈ c.sets, x.name.size ≤ 1048576 ∧ x.frm.size ≤ 1048576
theorem CoreR.forms {w : World} {vs vd vp vi : Value} {c : CoreM} (h : CoreR w vs vd vp vi c) : ∃ A0 c0 A1 c1 A2 c2 A3 c3, vs = .slice A0 c.sets.length c0 ∧ vd = .slice A1 c.ddt.length c1 ∧ vp = .slice A2 c.parts.length c2 ∧ vi = .slice A3 c.safe.length c3 := by
  obtain ⟨_, A0, c0, e0, _⟩ := h.s
  obtain ⟨_, A1, c1, e1, _⟩ := h.d
  obtain ⟨_, A2, c2, e2, _⟩ := h.p
  obtain ⟨_, A3, c3, e3, _⟩ := h.i
  exact ⟨A0, c0, A1, c1, A2, c2, A3, c3, e0, e1, e2, e3⟩
def NewCore (w : World) (c : CoreM) (e : Ending) (w' : World) : Prop :=
  ∃ vs vd vp vi, e = .returned (cv c vs vd vp vi) ∧ CoreR w' vs vd vp vi c ∧ Below w.heap.size w w'
theorem aggCore : Agg Tryz.prog 45 7 := ⟨Tryz.isAgg45, Tryz.sizeOf45⟩
theorem toIntS_b (v : Value) (ss : List Int) (w : World) (h : Sl w 1 v ss.length (ics ss)) (hs : ss.length ≤ 1048576) :
    Calls Tryz.prog 61 #[v] w fun e w' => ∃ v, e = .returned v ∧ w'.ownsRow w.heap.size 3 1 v ss.length (ics ss) ∧ Below w.heap.size w w' := toIntS_any v ss w h hs
theorem eqIntS_b (va vb : Value) (ss : List Int) (w : World) (ha : Sl w 1 va ss.length (ics ss)) (hb : Sl w 1 vb ss.length (ics ss)) (hs : ss.length ≤ 1048576) :
    Calls Tryz.prog 36 #[va, vb] w fun e w' => e = .returned (.bool true) ∧ Below w.heap.size w w' := by
  refine (eqIntS_same va vb ss w ha hb hs).mono ?_
  rintro e w' ⟨rfl, q, rfl⟩
  exact ⟨rfl, ⟨rfl, rfl, rfl, Nat.le_refl _, fun _ _ => rfl⟩⟩

set_option maxHeartbeats 400000 in
theorem szIntS_any (v : Value) (n : Nat) (xs : List Value) (left : Int) (w : World) (h : Sl w 1 v n xs) (h0 : 0 ≤ left) (h1 : left ≤ 1048576) :
    Calls Tryz.prog 50 #[v, .int .i64 left] w fun e w' => e = .returned (.int .i64 (if left < n then -1 else left - n)) ∧ Below w.heap.size w w' := by
  have hnm := h.le
  unfold maxLen at hnm
  obtain ⟨_, A, c, rfl, _, _, _⟩ := h
  by_cases hl : left < n
  · rw [if_pos hl]
    go_enter Tryz.func50, Tryz.ntmps50
    go_wp2
    go_ret
    exact ⟨rfl, Below.refl _ _⟩
  · rw [if_neg hl]
    go_enter Tryz.func50, Tryz.ntmps50
    go_wp2
    go_ret
    exact ⟨rfl, Below.refl _ _⟩

/-- How much of the room sets take. -/
def cszs (ls : List CSetM) : Nat := (ls.map csz).sum
theorem cszs_snoc (a : List CSetM) (x : CSetM) : cszs (a ++ [x]) = cszs a + csz x := by simp [cszs]
set_option maxHeartbeats 2000000 in
theorem szCoreSetS_any (v : Value) (ls : List CSetM) (left : Int) (w : World) (h : Sl w 31 v ls.length (ccs ls)) (hv : Low w.heap.size v) (hz : ∀ x ∈ ls, x.name.size ≤ maxLen ∧ x.frm.size ≤ maxLen) (h0 : 0 ≤ left) (h1 : left ≤ 1048576) :
    Calls Tryz.prog 47 #[v, .int .i64 left] w fun e w' => (∃ r : Int, e = .returned (.int .i64 r) ∧ (r = -1 ∨ 0 ≤ r ∧ r + (ls.length + cszs ls : Nat) = left)) ∧ Below w.heap.size w w' := by
  have hnm := h.le
  unfold maxLen at hnm
  have HZ := Lib.hid hz
  obtain ⟨n, HN⟩ : ∃ n, Hid (ls.length = n) := ⟨_, Lib.hid rfl⟩
  rw [HN.out] at h hnm ⊢
  have HS := Lib.hid h
  have HV := Lib.hid hv
  obtain ⟨_, A, c, rfl, _, _, _⟩ := h
  clear hz hv
  by_cases hl : left < n
  · go_enter Tryz.func47, Tryz.ntmps47
    go_wp2
    go_ret
    exact ⟨⟨-1, rfl, Or.inl rfl⟩, Below.refl _ _⟩
  have hl2 : ¬ (left - (n : Int) < 0) := by omega
  go_enter Tryz.func47, Tryz.ntmps47
  go_wp2
  go_loopw [1, 5] (fun l i wr => ∃ (k : Nat) (r : Int), k ≤ n ∧ l = .int .i64 r ∧ i = .int .i64 k ∧ 0 ≤ r ∧ r ≤ 1048576 ∧ Hid (r + (n + cszs (ls.take k) : Nat) = left) ∧ Hid (Below w.heap.size w wr)) (fun _ i _ => n - (intOf i).toNat)
  case atStart => exact ⟨0, left - n, Nat.zero_le _, rfl, rfl, by omega, by omega, Lib.hid (by simp [cszs]), Lib.hid (Below.refl _ _)⟩
  case round =>
    obtain ⟨k, r, hk, rfl, rfl, hr0, hr1, HR, HB⟩ := hrel
    by_cases hlt : k < n
    case pos =>
      have hlt' : k < ls.length := by rw [HN.out]; exact hlt
      have hk1 : (k : Int) < (n : Int) := by omega
      obtain ⟨b, off, c', hv', _, _, hcell⟩ := (HS.out.below HB.out HV.out).form (by omega)
      injection hv' with e1 e2 e3
      subst e1 e3
      clear e2
      have HRD := Lib.hid (cset_read hcell k hlt')
      have HT := Lib.hid (show cszs (ls.take (k + 1)) = cszs (ls.take k) + csz ls[k] from by rw [List.take_succ_eq_append_getElem hlt', cszs_snoc])
      have hzk := HZ.out _ (List.getElem_mem hlt')
      generalize ls[k] = x at HRD HT hzk
      clear hcell
      go_wp2_with (refine wpList_load_cs rfl _ rfl aggSetL rfl (cc x) (cc_length x) HRD.out ?_)
      refine (szCoreSet_any x r _ hzk.1 hzk.2 hr0 hr1).mono ?_
      rintro e w2 ⟨⟨r2, rfl, hr2⟩, hb2⟩
      have HB2 := Lib.hid (HB.out.trans (hb2.mono HB.out.size))
      clear hb2 HB HRD
      rcases hr2 with rfl | ⟨hr3, hr4⟩
      · go_wp2
        go_ret
        exact ⟨⟨-1, rfl, Or.inl rfl⟩, HB2.out⟩
      · have hr5 : ¬ r2 < 0 := by omega
        have HR2 := Lib.hid (show r2 + (n + cszs (ls.take (k + 1)) : Nat) = left from by have h1 := HR.out; have h2 := HT.out; rw [h2]; omega)
        have hr6 : r2 ≤ 1048576 := by omega
        clear hr4 HR HT
        go_wp2
        go_roundw
        case rel => exact ⟨k + 1, r2, by omega, rfl, by go_num, hr3, hr6, HR2, HB2⟩
        case measure => simp [intOf]; omega
    case neg =>
      have HK := Lib.hid (show ls.take k = ls from List.take_of_length_le (by rw [HN.out]; omega))
      have HR2 := Lib.hid (show r + (n + cszs ls : Nat) = left from by have h1 := HR.out; rw [HK.out] at h1; exact h1)
      clear HR HK
      go_wp2
      go_ret
      exact ⟨⟨r, rfl, Or.inr ⟨hr0, HR2.out⟩⟩, HB.out⟩

set_option maxHeartbeats 2000000 in
theorem toCore_any (vs vd vp vi : Value) (c : CoreM) (w : World) (h : CoreR w vs vd vp vi c) (hs : CoreShort c) :
    Calls Tryz.prog 22 #[cv c vs vd vp vi] w (NewCore w c) := by
  obtain ⟨b1, b2, b3, hsz, hB⟩ := box3 w #[.int .i64 c.txg, vs, vd, vp, .bool c.dirty, vi, .int .i64 c.logn] #[.int .i64 0, .slice none 0 0, .slice none 0 0, .slice none 0 0, .bool false, .slice none 0 0, .int .i64 0] #[.int .i64 0, .slice none 0 0, .slice none 0 0, .slice none 0 0, .bool false, .slice none 0 0, .int .i64 0] 32 45 45
  have X1 := Lib.hid b1
  have X2 := Lib.hid b2
  have X3 := Lib.hid b3
  have B0 := Lib.hid hB
  have HR := Lib.hid h
  have HS := Lib.hid hs
  obtain ⟨A0, k0, A1, k1, A2, k2, A3, k3, rfl, rfl, rfl, rfl⟩ := h.forms
  clear b1 b2 b3 hB hsz h hs
  go_enter Tryz.func22, Tryz.ntmps22
  go_upto_region 2 with fail
  generalize ((w.alloc (.cells #[.int .i64 c.txg, .slice A0 c.sets.length k0, .slice A1 c.ddt.length k1, .slice A2 c.parts.length k2, .bool c.dirty, .slice A3 c.safe.length k3, .int .i64 c.logn] 32)).alloc (.cells #[.int .i64 0, .slice none 0 0, .slice none 0 0, .slice none 0 0, .bool false, .slice none 0 0, .int .i64 0] 45)).alloc (.cells #[.int .i64 0, .slice none 0 0, .slice none 0 0, .slice none 0 0, .bool false, .slice none 0 0, .int .i64 0] 45) = W at X1 X2 X3 B0 ⊢
  have n0 := X1.out.cell 0 rfl
  have c0 := X3.out.cell 0 rfl
  have f0 := X3.out.open_ 0
  have Y1 := Lib.hid (X1.out.other (p := ⟨w.heap.size + 1 + 1, 0, none⟩) (by simp; omega) (.int .i64 c.txg))
  have Y2 := Lib.hid (X2.out.other (p := ⟨w.heap.size + 1 + 1, 0, none⟩) (by simp) (.int .i64 c.txg))
  have Y3 := Lib.hid (show Box (W.setCell ⟨w.heap.size + 1 + 1, 0, none⟩ (.int .i64 c.txg)) (w.heap.size + 1 + 1) [.int .i64 c.txg, .slice none 0 0, .slice none 0 0, .slice none 0 0, .bool false, .slice none 0 0, .int .i64 0] from X3.out.set 0 (.int .i64 c.txg))
  have B1 := Lib.hid (B0.out.setCell (p := ⟨w.heap.size + 1 + 1, 0, none⟩) (by simp; omega) (.int .i64 c.txg))
  clear X1 X2 X3 B0
  go_upto_region 3 with fail
  generalize W.setCell ⟨w.heap.size + 1 + 1, 0, none⟩ (.int .i64 c.txg) = W0 at Y1 Y2 Y3 B1 ⊢
  clear c0 f0 n0
  have X1 := Y1
  have X2 := Y2
  have X3 := Y3
  have B0 := B1
  clear Y1 Y2 Y3 B1
  have n1 := X1.out.cell 1 rfl
  have hl1 : w.heap.size + 1 + 1 < W0.heap.size := X3.out.lt
  go_wp2_with fail
  refine (toCoreSetS_any _ c.sets _ (HR.out.s.below B0.out (fun b e => HR.out.ls b e)) (fun b e => Nat.lt_of_lt_of_le (HR.out.ls b e) B0.out.size) HS.out.s).mono ?_
  rintro e wc1 ⟨us, rfl, hown, hb⟩
  have O1 := Lib.hid hown
  obtain ⟨_, E1, d1, rfl, _, _, _⟩ := sl_of_own hown
  have Y1 := Lib.hid (X1.out.below hb X1.out.lt)
  have Y2 := Lib.hid (X2.out.below hb X2.out.lt)
  have Y3 := Lib.hid (X3.out.below hb X3.out.lt)
  have B1 := Lib.hid (B0.out.trans (hb.mono B0.out.size))
  clear hb hown X1 X2 X3 B0 n1
  have X1 := Y1
  have X2 := Y2
  have X3 := Y3
  have B0 := B1
  clear Y1 Y2 Y3 B1
  have c1 := X3.out.cell 1 rfl
  have f1 := X3.out.open_ 1
  have Y1 := Lib.hid (X1.out.other (p := ⟨w.heap.size + 1 + 1, 1, none⟩) (by simp; omega) (.slice E1 c.sets.length d1))
  have Y2 := Lib.hid (X2.out.other (p := ⟨w.heap.size + 1 + 1, 1, none⟩) (by simp) (.slice E1 c.sets.length d1))
  have Y3 := Lib.hid (show Box (wc1.setCell ⟨w.heap.size + 1 + 1, 1, none⟩ (.slice E1 c.sets.length d1)) (w.heap.size + 1 + 1) [.int .i64 c.txg, .slice E1 c.sets.length d1, .slice none 0 0, .slice none 0 0, .bool false, .slice none 0 0, .int .i64 0] from X3.out.set 1 (.slice E1 c.sets.length d1))
  have B1 := Lib.hid (B0.out.setCell (p := ⟨w.heap.size + 1 + 1, 1, none⟩) (by simp; omega) (.slice E1 c.sets.length d1))
  clear X1 X2 X3 B0
  have O1n := Lib.hid (own_kept O1.out (w' := wc1.setCell ⟨w.heap.size + 1 + 1, 1, none⟩ (.slice E1 c.sets.length d1)) (fun b e => Below.heap_setCell _ _ _ _ (by have := (O1.out.lt b e).1; simp; omega)))
  clear O1
  go_upto_region 4 with fail
  generalize wc1.setCell ⟨w.heap.size + 1 + 1, 1, none⟩ (.slice E1 c.sets.length d1) = W1 at Y1 Y2 Y3 B1 O1n ⊢
  clear c1 f1
  have O1 := O1n
  clear O1n
  have X1 := Y1
  have X2 := Y2
  have X3 := Y3
  have B0 := B1
  clear Y1 Y2 Y3 B1
  have n2 := X1.out.cell 2 rfl
  have hl2 : w.heap.size + 1 + 1 < W1.heap.size := X3.out.lt
  go_wp2_with fail
  refine (toDdtEntryS_any _ c.ddt _ (HR.out.d.below B0.out (fun b e => HR.out.ld b e)) (fun b e => Nat.lt_of_lt_of_le (HR.out.ld b e) B0.out.size) HS.out.d).mono ?_
  rintro e wc2 ⟨ud, rfl, hown, hb⟩
  have O2 := Lib.hid hown
  obtain ⟨_, E2, d2, rfl, _, _, _⟩ := sl_of_own hown
  have Y1 := Lib.hid (X1.out.below hb X1.out.lt)
  have Y2 := Lib.hid (X2.out.below hb X2.out.lt)
  have Y3 := Lib.hid (X3.out.below hb X3.out.lt)
  have B1 := Lib.hid (B0.out.trans (hb.mono B0.out.size))
  have O1n := Lib.hid (own_kept O1.out (w' := wc2) (fun b e => hb.block b (O1.out.lt b e).2))
  clear O1
  clear hb hown X1 X2 X3 B0 n2
  have X1 := Y1
  have X2 := Y2
  have X3 := Y3
  have B0 := B1
  clear Y1 Y2 Y3 B1
  have O1 := O1n
  clear O1n
  have c2 := X3.out.cell 2 rfl
  have f2 := X3.out.open_ 2
  have Y1 := Lib.hid (X1.out.other (p := ⟨w.heap.size + 1 + 1, 2, none⟩) (by simp; omega) (.slice E2 c.ddt.length d2))
  have Y2 := Lib.hid (X2.out.other (p := ⟨w.heap.size + 1 + 1, 2, none⟩) (by simp) (.slice E2 c.ddt.length d2))
  have Y3 := Lib.hid (show Box (wc2.setCell ⟨w.heap.size + 1 + 1, 2, none⟩ (.slice E2 c.ddt.length d2)) (w.heap.size + 1 + 1) [.int .i64 c.txg, .slice E1 c.sets.length d1, .slice E2 c.ddt.length d2, .slice none 0 0, .bool false, .slice none 0 0, .int .i64 0] from X3.out.set 2 (.slice E2 c.ddt.length d2))
  have B1 := Lib.hid (B0.out.setCell (p := ⟨w.heap.size + 1 + 1, 2, none⟩) (by simp; omega) (.slice E2 c.ddt.length d2))
  clear X1 X2 X3 B0
  have O1n := Lib.hid (own_kept O1.out (w' := wc2.setCell ⟨w.heap.size + 1 + 1, 2, none⟩ (.slice E2 c.ddt.length d2)) (fun b e => Below.heap_setCell _ _ _ _ (by have := (O1.out.lt b e).1; simp; omega)))
  clear O1
  have O2n := Lib.hid (own_kept O2.out (w' := wc2.setCell ⟨w.heap.size + 1 + 1, 2, none⟩ (.slice E2 c.ddt.length d2)) (fun b e => Below.heap_setCell _ _ _ _ (by have := (O2.out.lt b e).1; simp; omega)))
  clear O2
  go_upto_region 5 with fail
  generalize wc2.setCell ⟨w.heap.size + 1 + 1, 2, none⟩ (.slice E2 c.ddt.length d2) = W2 at Y1 Y2 Y3 B1 O1n O2n ⊢
  clear c2 f2
  have O1 := O1n
  clear O1n
  have O2 := O2n
  clear O2n
  have X1 := Y1
  have X2 := Y2
  have X3 := Y3
  have B0 := B1
  clear Y1 Y2 Y3 B1
  have n3 := X1.out.cell 3 rfl
  have hl3 : w.heap.size + 1 + 1 < W2.heap.size := X3.out.lt
  go_wp2_with fail
  refine (toPtrS_any _ c.parts _ (HR.out.p.below B0.out (fun b e => HR.out.lp b e)) (fun b e => Nat.lt_of_lt_of_le (HR.out.lp b e) B0.out.size) HS.out.p).mono ?_
  rintro e wc3 ⟨up, rfl, hown, hb⟩
  have O3 := Lib.hid hown
  obtain ⟨_, E3, d3, rfl, _, _, _⟩ := sl_of_own hown
  have Y1 := Lib.hid (X1.out.below hb X1.out.lt)
  have Y2 := Lib.hid (X2.out.below hb X2.out.lt)
  have Y3 := Lib.hid (X3.out.below hb X3.out.lt)
  have B1 := Lib.hid (B0.out.trans (hb.mono B0.out.size))
  have O1n := Lib.hid (own_kept O1.out (w' := wc3) (fun b e => hb.block b (O1.out.lt b e).2))
  clear O1
  have O2n := Lib.hid (own_kept O2.out (w' := wc3) (fun b e => hb.block b (O2.out.lt b e).2))
  clear O2
  clear hb hown X1 X2 X3 B0 n3
  have X1 := Y1
  have X2 := Y2
  have X3 := Y3
  have B0 := B1
  clear Y1 Y2 Y3 B1
  have O1 := O1n
  clear O1n
  have O2 := O2n
  clear O2n
  have c3 := X3.out.cell 3 rfl
  have f3 := X3.out.open_ 3
  have Y1 := Lib.hid (X1.out.other (p := ⟨w.heap.size + 1 + 1, 3, none⟩) (by simp; omega) (.slice E3 c.parts.length d3))
  have Y2 := Lib.hid (X2.out.other (p := ⟨w.heap.size + 1 + 1, 3, none⟩) (by simp) (.slice E3 c.parts.length d3))
  have Y3 := Lib.hid (show Box (wc3.setCell ⟨w.heap.size + 1 + 1, 3, none⟩ (.slice E3 c.parts.length d3)) (w.heap.size + 1 + 1) [.int .i64 c.txg, .slice E1 c.sets.length d1, .slice E2 c.ddt.length d2, .slice E3 c.parts.length d3, .bool false, .slice none 0 0, .int .i64 0] from X3.out.set 3 (.slice E3 c.parts.length d3))
  have B1 := Lib.hid (B0.out.setCell (p := ⟨w.heap.size + 1 + 1, 3, none⟩) (by simp; omega) (.slice E3 c.parts.length d3))
  clear X1 X2 X3 B0
  have O1n := Lib.hid (own_kept O1.out (w' := wc3.setCell ⟨w.heap.size + 1 + 1, 3, none⟩ (.slice E3 c.parts.length d3)) (fun b e => Below.heap_setCell _ _ _ _ (by have := (O1.out.lt b e).1; simp; omega)))
  clear O1
  have O2n := Lib.hid (own_kept O2.out (w' := wc3.setCell ⟨w.heap.size + 1 + 1, 3, none⟩ (.slice E3 c.parts.length d3)) (fun b e => Below.heap_setCell _ _ _ _ (by have := (O2.out.lt b e).1; simp; omega)))
  clear O2
  have O3n := Lib.hid (own_kept O3.out (w' := wc3.setCell ⟨w.heap.size + 1 + 1, 3, none⟩ (.slice E3 c.parts.length d3)) (fun b e => Below.heap_setCell _ _ _ _ (by have := (O3.out.lt b e).1; simp; omega)))
  clear O3
  go_upto_region 6 with fail
  generalize wc3.setCell ⟨w.heap.size + 1 + 1, 3, none⟩ (.slice E3 c.parts.length d3) = W3 at Y1 Y2 Y3 B1 O1n O2n O3n ⊢
  clear c3 f3
  have O1 := O1n
  clear O1n
  have O2 := O2n
  clear O2n
  have O3 := O3n
  clear O3n
  have X1 := Y1
  have X2 := Y2
  have X3 := Y3
  have B0 := B1
  clear Y1 Y2 Y3 B1
  have n4 := X1.out.cell 4 rfl
  have c4 := X3.out.cell 4 rfl
  have f4 := X3.out.open_ 4
  have Y1 := Lib.hid (X1.out.other (p := ⟨w.heap.size + 1 + 1, 4, none⟩) (by simp; omega) (.bool c.dirty))
  have Y2 := Lib.hid (X2.out.other (p := ⟨w.heap.size + 1 + 1, 4, none⟩) (by simp) (.bool c.dirty))
  have Y3 := Lib.hid (show Box (W3.setCell ⟨w.heap.size + 1 + 1, 4, none⟩ (.bool c.dirty)) (w.heap.size + 1 + 1) [.int .i64 c.txg, .slice E1 c.sets.length d1, .slice E2 c.ddt.length d2, .slice E3 c.parts.length d3, .bool c.dirty, .slice none 0 0, .int .i64 0] from X3.out.set 4 (.bool c.dirty))
  have B1 := Lib.hid (B0.out.setCell (p := ⟨w.heap.size + 1 + 1, 4, none⟩) (by simp; omega) (.bool c.dirty))
  clear X1 X2 X3 B0
  have O1n := Lib.hid (own_kept O1.out (w' := W3.setCell ⟨w.heap.size + 1 + 1, 4, none⟩ (.bool c.dirty)) (fun b e => Below.heap_setCell _ _ _ _ (by have := (O1.out.lt b e).1; simp; omega)))
  clear O1
  have O2n := Lib.hid (own_kept O2.out (w' := W3.setCell ⟨w.heap.size + 1 + 1, 4, none⟩ (.bool c.dirty)) (fun b e => Below.heap_setCell _ _ _ _ (by have := (O2.out.lt b e).1; simp; omega)))
  clear O2
  have O3n := Lib.hid (own_kept O3.out (w' := W3.setCell ⟨w.heap.size + 1 + 1, 4, none⟩ (.bool c.dirty)) (fun b e => Below.heap_setCell _ _ _ _ (by have := (O3.out.lt b e).1; simp; omega)))
  clear O3
  go_upto_region 7 with fail
  generalize W3.setCell ⟨w.heap.size + 1 + 1, 4, none⟩ (.bool c.dirty) = W4 at Y1 Y2 Y3 B1 O1n O2n O3n ⊢
  clear c4 f4
  have O1 := O1n
  clear O1n
  have O2 := O2n
  clear O2n
  have O3 := O3n
  clear O3n
  have X1 := Y1
  have X2 := Y2
  have X3 := Y3
  have B0 := B1
  clear Y1 Y2 Y3 B1
  clear n4
  have n5 := X1.out.cell 5 rfl
  have hl5 : w.heap.size + 1 + 1 < W4.heap.size := X3.out.lt
  go_wp2_with fail
  refine (toIntS_b _ c.safe _ (HR.out.i.below B0.out (fun b e => HR.out.li b e)) HS.out.i).mono ?_
  rintro e wc5 ⟨ui, rfl, hown, hb⟩
  have O5 := Lib.hid hown
  obtain ⟨_, E5, d5, rfl, _, _, _⟩ := sl_of_own hown
  have Y1 := Lib.hid (X1.out.below hb X1.out.lt)
  have Y2 := Lib.hid (X2.out.below hb X2.out.lt)
  have Y3 := Lib.hid (X3.out.below hb X3.out.lt)
  have B1 := Lib.hid (B0.out.trans (hb.mono B0.out.size))
  have O1n := Lib.hid (own_kept O1.out (w' := wc5) (fun b e => hb.block b (O1.out.lt b e).2))
  clear O1
  have O2n := Lib.hid (own_kept O2.out (w' := wc5) (fun b e => hb.block b (O2.out.lt b e).2))
  clear O2
  have O3n := Lib.hid (own_kept O3.out (w' := wc5) (fun b e => hb.block b (O3.out.lt b e).2))
  clear O3
  clear hb hown X1 X2 X3 B0 n5
  have X1 := Y1
  have X2 := Y2
  have X3 := Y3
  have B0 := B1
  clear Y1 Y2 Y3 B1
  have O1 := O1n
  clear O1n
  have O2 := O2n
  clear O2n
  have O3 := O3n
  clear O3n
  have c5 := X3.out.cell 5 rfl
  have f5 := X3.out.open_ 5
  have Y1 := Lib.hid (X1.out.other (p := ⟨w.heap.size + 1 + 1, 5, none⟩) (by simp; omega) (.slice E5 c.safe.length d5))
  have Y2 := Lib.hid (X2.out.other (p := ⟨w.heap.size + 1 + 1, 5, none⟩) (by simp) (.slice E5 c.safe.length d5))
  have Y3 := Lib.hid (show Box (wc5.setCell ⟨w.heap.size + 1 + 1, 5, none⟩ (.slice E5 c.safe.length d5)) (w.heap.size + 1 + 1) [.int .i64 c.txg, .slice E1 c.sets.length d1, .slice E2 c.ddt.length d2, .slice E3 c.parts.length d3, .bool c.dirty, .slice E5 c.safe.length d5, .int .i64 0] from X3.out.set 5 (.slice E5 c.safe.length d5))
  have B1 := Lib.hid (B0.out.setCell (p := ⟨w.heap.size + 1 + 1, 5, none⟩) (by simp; omega) (.slice E5 c.safe.length d5))
  clear X1 X2 X3 B0
  have O1n := Lib.hid (own_kept O1.out (w' := wc5.setCell ⟨w.heap.size + 1 + 1, 5, none⟩ (.slice E5 c.safe.length d5)) (fun b e => Below.heap_setCell _ _ _ _ (by have := (O1.out.lt b e).1; simp; omega)))
  clear O1
  have O2n := Lib.hid (own_kept O2.out (w' := wc5.setCell ⟨w.heap.size + 1 + 1, 5, none⟩ (.slice E5 c.safe.length d5)) (fun b e => Below.heap_setCell _ _ _ _ (by have := (O2.out.lt b e).1; simp; omega)))
  clear O2
  have O3n := Lib.hid (own_kept O3.out (w' := wc5.setCell ⟨w.heap.size + 1 + 1, 5, none⟩ (.slice E5 c.safe.length d5)) (fun b e => Below.heap_setCell _ _ _ _ (by have := (O3.out.lt b e).1; simp; omega)))
  clear O3
  have O5n := Lib.hid (own_kept O5.out (w' := wc5.setCell ⟨w.heap.size + 1 + 1, 5, none⟩ (.slice E5 c.safe.length d5)) (fun b e => Below.heap_setCell _ _ _ _ (by have := (O5.out.lt b e).1; simp; omega)))
  clear O5
  go_upto_region 8 with fail
  generalize wc5.setCell ⟨w.heap.size + 1 + 1, 5, none⟩ (.slice E5 c.safe.length d5) = W5 at Y1 Y2 Y3 B1 O1n O2n O3n O5n ⊢
  clear c5 f5
  have O1 := O1n
  clear O1n
  have O2 := O2n
  clear O2n
  have O3 := O3n
  clear O3n
  have O5 := O5n
  clear O5n
  have X1 := Y1
  have X2 := Y2
  have X3 := Y3
  have B0 := B1
  clear Y1 Y2 Y3 B1
  have n6 := X1.out.cell 6 rfl
  have c6 := X3.out.cell 6 rfl
  have f6 := X3.out.open_ 6
  have Y1 := Lib.hid (X1.out.other (p := ⟨w.heap.size + 1 + 1, 6, none⟩) (by simp; omega) (.int .i64 c.logn))
  have Y2 := Lib.hid (X2.out.other (p := ⟨w.heap.size + 1 + 1, 6, none⟩) (by simp) (.int .i64 c.logn))
  have Y3 := Lib.hid (show Box (W5.setCell ⟨w.heap.size + 1 + 1, 6, none⟩ (.int .i64 c.logn)) (w.heap.size + 1 + 1) [.int .i64 c.txg, .slice E1 c.sets.length d1, .slice E2 c.ddt.length d2, .slice E3 c.parts.length d3, .bool c.dirty, .slice E5 c.safe.length d5, .int .i64 c.logn] from X3.out.set 6 (.int .i64 c.logn))
  have B1 := Lib.hid (B0.out.setCell (p := ⟨w.heap.size + 1 + 1, 6, none⟩) (by simp; omega) (.int .i64 c.logn))
  clear X1 X2 X3 B0
  have O1n := Lib.hid (own_kept O1.out (w' := W5.setCell ⟨w.heap.size + 1 + 1, 6, none⟩ (.int .i64 c.logn)) (fun b e => Below.heap_setCell _ _ _ _ (by have := (O1.out.lt b e).1; simp; omega)))
  clear O1
  have O2n := Lib.hid (own_kept O2.out (w' := W5.setCell ⟨w.heap.size + 1 + 1, 6, none⟩ (.int .i64 c.logn)) (fun b e => Below.heap_setCell _ _ _ _ (by have := (O2.out.lt b e).1; simp; omega)))
  clear O2
  have O3n := Lib.hid (own_kept O3.out (w' := W5.setCell ⟨w.heap.size + 1 + 1, 6, none⟩ (.int .i64 c.logn)) (fun b e => Below.heap_setCell _ _ _ _ (by have := (O3.out.lt b e).1; simp; omega)))
  clear O3
  have O5n := Lib.hid (own_kept O5.out (w' := W5.setCell ⟨w.heap.size + 1 + 1, 6, none⟩ (.int .i64 c.logn)) (fun b e => Below.heap_setCell _ _ _ _ (by have := (O5.out.lt b e).1; simp; omega)))
  clear O5
  go_upto_region 9 with fail
  generalize W5.setCell ⟨w.heap.size + 1 + 1, 6, none⟩ (.int .i64 c.logn) = W6 at Y1 Y2 Y3 B1 O1n O2n O3n O5n ⊢
  clear c6 f6
  have O1 := O1n
  clear O1n
  have O2 := O2n
  clear O2n
  have O3 := O3n
  clear O3n
  have O5 := O5n
  clear O5n
  have X1 := Y1
  have X2 := Y2
  have X3 := Y3
  have B0 := B1
  clear Y1 Y2 Y3 B1
  clear n6
  have HPF := Lib.hid (Box.putAll X2.out [.int .i64 c.txg, .slice E1 c.sets.length d1, .slice E2 c.ddt.length d2, .slice E3 c.parts.length d3, .bool c.dirty, .slice E5 c.safe.length d5, .int .i64 c.logn] rfl)
  have HBF := Lib.hid (putC_below B0.out (w.heap.size + 1) 0 (by omega) [.int .i64 c.txg, .slice E1 c.sets.length d1, .slice E2 c.ddt.length d2, .slice E3 c.parts.length d3, .bool c.dirty, .slice E5 c.safe.length d5, .int .i64 c.logn])
  have Q1 := Lib.hid (own_kept O1.out (w' := putC W6 (w.heap.size + 1) 0 [.int .i64 c.txg, .slice E1 c.sets.length d1, .slice E2 c.ddt.length d2, .slice E3 c.parts.length d3, .bool c.dirty, .slice E5 c.safe.length d5, .int .i64 c.logn]) (fun b e => putC_heap _ _ _ _ _ (by have := (O1.out.lt b e).1; omega)))
  have Q2 := Lib.hid (own_kept O2.out (w' := putC W6 (w.heap.size + 1) 0 [.int .i64 c.txg, .slice E1 c.sets.length d1, .slice E2 c.ddt.length d2, .slice E3 c.parts.length d3, .bool c.dirty, .slice E5 c.safe.length d5, .int .i64 c.logn]) (fun b e => putC_heap _ _ _ _ _ (by have := (O2.out.lt b e).1; omega)))
  have Q3 := Lib.hid (own_kept O3.out (w' := putC W6 (w.heap.size + 1) 0 [.int .i64 c.txg, .slice E1 c.sets.length d1, .slice E2 c.ddt.length d2, .slice E3 c.parts.length d3, .bool c.dirty, .slice E5 c.safe.length d5, .int .i64 c.logn]) (fun b e => putC_heap _ _ _ _ _ (by have := (O3.out.lt b e).1; omega)))
  have Q5 := Lib.hid (own_kept O5.out (w' := putC W6 (w.heap.size + 1) 0 [.int .i64 c.txg, .slice E1 c.sets.length d1, .slice E2 c.ddt.length d2, .slice E3 c.parts.length d3, .bool c.dirty, .slice E5 c.safe.length d5, .int .i64 c.logn]) (fun b e => putC_heap _ _ _ _ _ (by have := (O5.out.lt b e).1; omega)))
  go_wp2_with (first | (refine wpList_load_box rfl _ rfl aggCore rfl [.int .i64 c.txg, .slice E1 c.sets.length d1, .slice E2 c.ddt.length d2, .slice E3 c.parts.length d3, .bool c.dirty, .slice E5 c.safe.length d5, .int .i64 c.logn] rfl X3.out ?_) | (refine wpList_store_box rfl _ _ rfl rfl aggCore rfl [.int .i64 c.txg, .slice E1 c.sets.length d1, .slice E2 c.ddt.length d2, .slice E3 c.parts.length d3, .bool c.dirty, .slice E5 c.safe.length d5, .int .i64 c.logn] rfl rfl (by simp [Value.oneCell']) _ X2.out rfl ?_; generalize putC W6 (w.heap.size + 1) 0 [.int .i64 c.txg, .slice E1 c.sets.length d1, .slice E2 c.ddt.length d2, .slice E3 c.parts.length d3, .bool c.dirty, .slice E5 c.safe.length d5, .int .i64 c.logn] = WF at HPF HBF Q1 Q2 Q3 Q5 ⊢))
  refine bodyPost_ret (results_box rfl _ (w.heap.size + 1) [.int .i64 c.txg, .slice E1 c.sets.length d1, .slice E2 c.ddt.length d2, .slice E3 c.parts.length d3, .bool c.dirty, .slice E5 c.safe.length d5, .int .i64 c.logn] aggCore rfl rfl HPF.out) rfl ⟨_, _, _, _, rfl, ⟨sl_of_own Q1.out, sl_of_own Q2.out, sl_of_own Q3.out, sl_of_own Q5.out, low_of_own Q1.out, low_of_own Q2.out, low_of_own Q3.out, low_of_own Q5.out⟩, HBF.out⟩
end Go.Proofs.YtojjenclcidnkaaGreatDoor

/-
  Lists of pointers marked, and asked for the marks.
-/
set_option maxRecDepth 100000
namespace Go.Proofs.YtojjenclcidnkaaGreatDoor
open Go.ChangeShapes Go.WideShapes Go.ChangeAt Go.RowKit Go.Proofs.Palim

/-- The marks of pointers from k on. -/
def pmarks (k n : Nat) : List PtrM := (List.range n).map fun i => ⟨((k + 3 * i : Nat) : Int), ((k + 3 * i + 1 : Nat) : Int), ((k + 3 * i + 2 : Nat) : Int)⟩
theorem pmarks_length (k n : Nat) : (pmarks k n).length = n := by simp [pmarks]
theorem pmarks_succ (k n : Nat) : pmarks k (n + 1) = pmarks k n ++ [⟨((k + 3 * n : Nat) : Int), ((k + 3 * n + 1 : Nat) : Int), ((k + 3 * n + 2 : Nat) : Int)⟩] := by simp [pmarks, List.range_succ]
theorem pmarks_at (k n i : Nat) (h' : i < (pmarks k n).length) : (pmarks k n)[i] = ⟨((k + 3 * i : Nat) : Int), ((k + 3 * i + 1 : Nat) : Int), ((k + 3 * i + 2 : Nat) : Int)⟩ := by simp [pmarks]

def MarkedP (k : Nat) (v : Value) (base n : Nat) (w : World) (e : Ending) (w' : World) : Prop :=
  e = .returned (.int .i64 ((k + 3 * n : Nat) : Int)) ∧ w'.ownsRow base 67 3 v n (pcs (pmarks k n)) ∧ Turned (fun b => v.ownBlock = some b) w w'

set_option maxHeartbeats 1000000 in
theorem markPtrS_any (v : Value) (n k base : Nat) (xs0 : List Value) (w : World) (h : w.ownsRow base 67 3 v n xs0) (hs : n ≤ 1048576) (hk0 : 1 ≤ k) (hk1 : k ≤ 100000000) :
    Calls Tryz.prog 39 #[v, .int .i64 (k : Int)] w (MarkedP k v base n w) := by
  by_cases hn : n = 0
  · subst hn
    obtain ⟨_, A, c, rfl, _, _, _⟩ := sl_of_own h
    have HO := Lib.hid h
    clear h
    go_enter Tryz.func39, Tryz.ntmps39
    go_wp2
    go_loopw [1, 5] (fun l i wr => l = .int .i64 (k : Int) ∧ i = .int .i64 0 ∧ wr = w) (fun _ _ _ => 0)
    case atStart => exact ⟨rfl, rfl, rfl⟩
    case round =>
      obtain ⟨rfl, rfl, rfl⟩ := hrel
      go_wp2
      go_ret
      refine ⟨rfl, ?_, Turned.refl _ _⟩
      have h0 := HO.out
      rw [List.length_eq_zero_iff.1 (h0.1.trans (Nat.zero_mul _))] at h0
      exact h0
  · obtain ⟨g, cap, rfl, hbg, hgl⟩ := h.form (by omega)
    have hcp : cap ≤ maxLen ∧ n ≤ cap := by
      rcases h.2 with ⟨hv, _⟩ | ⟨g', cap', cur, hv, _, _, h1, h2, _⟩
      · cases hv
      · injection hv with e1 e2 e3
        subst e3
        exact ⟨h2, h1⟩
    obtain ⟨hcp1, hcp2⟩ := hcp
    unfold maxLen at hcp1
    have HO0 := Lib.hid h
    clear h
    go_enter Tryz.func39, Tryz.ntmps39
    go_wp2
    go_loopw [1, 5] (fun l i wr => ∃ (j kk : Nat) (xs : List Value), j ≤ n ∧ kk = k + 3 * j ∧ l = .int .i64 (kk : Int) ∧ i = .int .i64 (j : Int) ∧ Hid (wr.ownsRow base 67 3 (.slice (some ⟨g, 0, none⟩) n cap) n xs) ∧ Hid (xs.take (j * 3) = pcs (pmarks k j)) ∧ Hid (Turned (fun b => b = g) w wr)) (fun _ i _ => n - (intOf i).toNat)
    case atStart => exact ⟨0, k, _, Nat.zero_le _, rfl, rfl, rfl, HO0, Lib.hid rfl, Lib.hid (Turned.refl _ _)⟩
    case round =>
      obtain ⟨j, kk, xs, hj, hkk, rfl, rfl, HO, HT, HW⟩ := hrel
      have HK := Lib.hid hkk
      have hkb : kk ≤ 103145728 := by omega
      have hkb1 : 1 ≤ kk := by omega
      clear hkk
      by_cases hlt : j < n
      · obtain ⟨⟨u0, _, hc0⟩, hf0, _, _⟩ := own_at HO.out (j * 3) (by omega)
        obtain ⟨⟨u1, _, hc1⟩, hf1, _, _⟩ := own_at HO.out (j * 3 + 1) (by omega)
        obtain ⟨⟨u2, _, hc2⟩, hf2, _, _⟩ := own_at HO.out (j * 3 + 2) (by omega)
        have HO3 := Lib.hid (own_setN (own_setN (own_setN HO.out (j * 3) (.int .i64 (kk : Int))) (j * 3 + 1) (.int .i64 ((kk : Int) + 1))) (j * 3 + 2) (.int .i64 ((kk : Int) + 1 + 1)))
        have HW2 := Lib.hid (turned_setCell (turned_setCell (turned_setCell HW.out (p := ⟨g, j * 3, none⟩) rfl (.int .i64 (kk : Int))) (p := ⟨g, j * 3 + 1, none⟩) rfl (.int .i64 ((kk : Int) + 1))) (p := ⟨g, j * 3 + 2, none⟩) rfl (.int .i64 ((kk : Int) + 1 + 1)))
        have HT2 := Lib.hid (show (((xs.set (j * 3) (.int .i64 (kk : Int))).set (j * 3 + 1) (.int .i64 ((kk : Int) + 1))).set (j * 3 + 2) (.int .i64 ((kk : Int) + 1 + 1))).take ((j + 1) * 3) = pcs (pmarks k (j + 1)) from by
          have hl : j * 3 + 2 < xs.length := by have := HO.out.1; omega
          rw [take_set3 xs j _ _ _ hl, HT.out, pmarks_succ, pcs_snoc, ← HK.out]
          rfl)
        clear HO HT HW
        go_wp2
        go_roundw
        case rel => exact ⟨j + 1, kk + 3, _, by omega, by have := HK.out; omega, by go_num, by go_num, HO3, HT2, HW2⟩
        case measure => simp [intOf]; omega
      · have hjn : j = n := by omega
        have HX := Lib.hid (show xs = pcs (pmarks k n) from by
          have hl := HO.out.1
          have ht := HT.out
          rw [List.take_of_length_le (by omega), hjn] at ht
          exact ht)
        have HKN := Lib.hid (show kk = k + 3 * n from by rw [HK.out, hjn])
        clear hjn
        go_wp2
        go_ret
        refine ⟨?_, ?_, HW.out.mono ?_⟩
        · exact ret_int (by rw [HKN.out])
        · rw [← HX.out]; exact HO.out
        · rintro b _ rfl; rfl

set_option maxHeartbeats 1000000 in
theorem heldPtrS_any (v : Value) (n k : Nat) (w : World) (h : Sl w 3 v n (pcs (pmarks k n))) (hv : ∀ b, v.ownBlock = some b → b < w.heap.size) (hs : n ≤ 1048576) (hk0 : 1 ≤ k) (hk1 : k ≤ 100000000) :
    Calls Tryz.prog 43 #[v, .int .i64 (k : Int)] w (HeldPost ((k + 3 * n : Nat) : Int) w) := by
  by_cases hn : n = 0
  · subst hn
    obtain ⟨_, A, c, rfl, _, _, _⟩ := h
    clear hv
    go_enter Tryz.func43, Tryz.ntmps43
    go_wp2
    go_loopw [1, 5] (fun l i wr => l = .int .i64 (k : Int) ∧ i = .int .i64 0 ∧ wr = w) (fun _ _ _ => 0)
    case atStart => exact ⟨rfl, rfl, rfl⟩
    case round =>
      obtain ⟨rfl, rfl, rfl⟩ := hrel
      go_wp2
      go_ret
      exact ⟨rfl, Below.refl _ _⟩
  · obtain ⟨b, off, c, rfl, hnc, hcm, hcell⟩ := h.form (by omega)
    have hbl : b < w.heap.size := hv b rfl
    have HC := Lib.hid hcell
    unfold maxLen at hcm
    clear hcell h hv
    go_enter Tryz.func43, Tryz.ntmps43
    go_wp2
    go_loopw [1, 5] (fun l i wr => ∃ (j kk : Nat), j ≤ n ∧ Hid (kk = k + 3 * j) ∧ l = .int .i64 (kk : Int) ∧ i = .int .i64 (j : Int) ∧ Hid (Below w.heap.size w wr)) (fun _ i _ => n - (intOf i).toNat)
    case atStart => exact ⟨0, k, Nat.zero_le _, Lib.hid rfl, rfl, rfl, Lib.hid (Below.refl _ _)⟩
    case round =>
      obtain ⟨j, kk, hj, HK, rfl, rfl, HB⟩ := hrel
      have hkb : kk ≤ 103145728 := by have := HK.out; omega
      have hkb1 : 1 ≤ kk := by have := HK.out; omega
      by_cases hlt : j < n
      · have hlt' : j < (pmarks k n).length := by rw [pmarks_length]; exact hlt
        have hrd := ptr_read (fun j u hu => (HB.out.cell hbl).trans (HC.out j u hu)) j hlt'
        rw [pmarks_at, ← HK.out] at hrd
        obtain ⟨h1, h2, h3⟩ := hrd
        have h2' : wr.cell? ⟨b, off + j * 3 + 1, none⟩ = some (.int .i64 ((kk : Int) + 1)) := h2
        have h3' : wr.cell? ⟨b, off + j * 3 + 2, none⟩ = some (.int .i64 ((kk : Int) + 1 + 1)) := h3
        clear h2 h3
        have hj1 : (j : Int) < (n : Int) := by omega
        go_wp2
        go_roundw
        case rel => exact ⟨j + 1, kk + 3, by omega, Lib.hid (by have := HK.out; omega), by go_num, by go_num, HB⟩
        case measure => simp [intOf]; omega
      · have HKN := Lib.hid (show kk = k + 3 * n from by have := HK.out; omega)
        go_wp2
        go_ret
        exact ⟨ret_int (by rw [HKN.out]), HB.out⟩
end Go.Proofs.YtojjenclcidnkaaGreatDoor

/-
  Lists of entries marked, and asked for the marks.
-/
set_option maxRecDepth 100000
namespace Go.Proofs.YtojjenclcidnkaaGreatDoor
open Go.ChangeShapes Go.WideShapes Go.ChangeAt Go.RowKit Go.Proofs.Palim

/-- The marks of entries from k on. -/
def emarks (k n : Nat) : List EntM := (List.range n).map fun i => ⟨((k + 3 * i : Nat) : Int), ((k + 3 * i + 1 : Nat) : Int), ((k + 3 * i + 2 : Nat) : Int)⟩
theorem emarks_length (k n : Nat) : (emarks k n).length = n := by simp [emarks]
theorem emarks_succ (k n : Nat) : emarks k (n + 1) = emarks k n ++ [⟨((k + 3 * n : Nat) : Int), ((k + 3 * n + 1 : Nat) : Int), ((k + 3 * n + 2 : Nat) : Int)⟩] := by simp [emarks, List.range_succ]
theorem emarks_at (k n i : Nat) (h' : i < (emarks k n).length) : (emarks k n)[i] = ⟨((k + 3 * i : Nat) : Int), ((k + 3 * i + 1 : Nat) : Int), ((k + 3 * i + 2 : Nat) : Int)⟩ := by simp [emarks]

def MarkedE (k : Nat) (v : Value) (base n : Nat) (w : World) (e : Ending) (w' : World) : Prop :=
  e = .returned (.int .i64 ((k + 3 * n : Nat) : Int)) ∧ w'.ownsRow base 135 3 v n (ecs (emarks k n)) ∧ Turned (fun b => v.ownBlock = some b) w w'

set_option maxHeartbeats 1000000 in
theorem markDdtEntryS_any (v : Value) (n k base : Nat) (xs0 : List Value) (w : World) (h : w.ownsRow base 135 3 v n xs0) (hs : n ≤ 1048576) (hk0 : 1 ≤ k) (hk1 : k ≤ 100000000) :
    Calls Tryz.prog 38 #[v, .int .i64 (k : Int)] w (MarkedE k v base n w) := by
  by_cases hn : n = 0
  · subst hn
    obtain ⟨_, A, c, rfl, _, _, _⟩ := sl_of_own h
    have HO := Lib.hid h
    clear h
    go_enter Tryz.func38, Tryz.ntmps38
    go_wp2
    go_loopw [1, 5] (fun l i wr => l = .int .i64 (k : Int) ∧ i = .int .i64 0 ∧ wr = w) (fun _ _ _ => 0)
    case atStart => exact ⟨rfl, rfl, rfl⟩
    case round =>
      obtain ⟨rfl, rfl, rfl⟩ := hrel
      go_wp2
      go_ret
      refine ⟨rfl, ?_, Turned.refl _ _⟩
      have h0 := HO.out
      rw [List.length_eq_zero_iff.1 (h0.1.trans (Nat.zero_mul _))] at h0
      exact h0
  · obtain ⟨g, cap, rfl, hbg, hgl⟩ := h.form (by omega)
    have hcp : cap ≤ maxLen ∧ n ≤ cap := by
      rcases h.2 with ⟨hv, _⟩ | ⟨g', cap', cur, hv, _, _, h1, h2, _⟩
      · cases hv
      · injection hv with e1 e2 e3
        subst e3
        exact ⟨h2, h1⟩
    obtain ⟨hcp1, hcp2⟩ := hcp
    unfold maxLen at hcp1
    have HO0 := Lib.hid h
    clear h
    go_enter Tryz.func38, Tryz.ntmps38
    go_wp2
    go_loopw [1, 5] (fun l i wr => ∃ (j kk : Nat) (xs : List Value), j ≤ n ∧ kk = k + 3 * j ∧ l = .int .i64 (kk : Int) ∧ i = .int .i64 (j : Int) ∧ Hid (wr.ownsRow base 135 3 (.slice (some ⟨g, 0, none⟩) n cap) n xs) ∧ Hid (xs.take (j * 3) = ecs (emarks k j)) ∧ Hid (Turned (fun b => b = g) w wr)) (fun _ i _ => n - (intOf i).toNat)
    case atStart => exact ⟨0, k, _, Nat.zero_le _, rfl, rfl, rfl, HO0, Lib.hid rfl, Lib.hid (Turned.refl _ _)⟩
    case round =>
      obtain ⟨j, kk, xs, hj, hkk, rfl, rfl, HO, HT, HW⟩ := hrel
      have HK := Lib.hid hkk
      have hkb : kk ≤ 103145728 := by omega
      have hkb1 : 1 ≤ kk := by omega
      clear hkk
      by_cases hlt : j < n
      · obtain ⟨⟨u0, _, hc0⟩, hf0, _, _⟩ := own_at HO.out (j * 3) (by omega)
        obtain ⟨⟨u1, _, hc1⟩, hf1, _, _⟩ := own_at HO.out (j * 3 + 1) (by omega)
        obtain ⟨⟨u2, _, hc2⟩, hf2, _, _⟩ := own_at HO.out (j * 3 + 2) (by omega)
        have HO3 := Lib.hid (own_setN (own_setN (own_setN HO.out (j * 3) (.int .i64 (kk : Int))) (j * 3 + 1) (.int .i64 ((kk : Int) + 1))) (j * 3 + 2) (.int .i64 ((kk : Int) + 1 + 1)))
        have HW2 := Lib.hid (turned_setCell (turned_setCell (turned_setCell HW.out (p := ⟨g, j * 3, none⟩) rfl (.int .i64 (kk : Int))) (p := ⟨g, j * 3 + 1, none⟩) rfl (.int .i64 ((kk : Int) + 1))) (p := ⟨g, j * 3 + 2, none⟩) rfl (.int .i64 ((kk : Int) + 1 + 1)))
        have HT2 := Lib.hid (show (((xs.set (j * 3) (.int .i64 (kk : Int))).set (j * 3 + 1) (.int .i64 ((kk : Int) + 1))).set (j * 3 + 2) (.int .i64 ((kk : Int) + 1 + 1))).take ((j + 1) * 3) = ecs (emarks k (j + 1)) from by
          have hl : j * 3 + 2 < xs.length := by have := HO.out.1; omega
          rw [take_set3 xs j _ _ _ hl, HT.out, emarks_succ, ecs_snoc, ← HK.out]
          rfl)
        clear HO HT HW
        go_wp2
        go_roundw
        case rel => exact ⟨j + 1, kk + 3, _, by omega, by have := HK.out; omega, by go_num, by go_num, HO3, HT2, HW2⟩
        case measure => simp [intOf]; omega
      · have hjn : j = n := by omega
        have HX := Lib.hid (show xs = ecs (emarks k n) from by
          have hl := HO.out.1
          have ht := HT.out
          rw [List.take_of_length_le (by omega), hjn] at ht
          exact ht)
        have HKN := Lib.hid (show kk = k + 3 * n from by rw [HK.out, hjn])
        clear hjn
        go_wp2
        go_ret
        refine ⟨?_, ?_, HW.out.mono ?_⟩
        · exact ret_int (by rw [HKN.out])
        · rw [← HX.out]; exact HO.out
        · rintro b _ rfl; rfl

set_option maxHeartbeats 1000000 in
theorem heldDdtEntryS_any (v : Value) (n k : Nat) (w : World) (h : Sl w 3 v n (ecs (emarks k n))) (hv : ∀ b, v.ownBlock = some b → b < w.heap.size) (hs : n ≤ 1048576) (hk0 : 1 ≤ k) (hk1 : k ≤ 100000000) :
    Calls Tryz.prog 42 #[v, .int .i64 (k : Int)] w (HeldPost ((k + 3 * n : Nat) : Int) w) := by
  by_cases hn : n = 0
  · subst hn
    obtain ⟨_, A, c, rfl, _, _, _⟩ := h
    clear hv
    go_enter Tryz.func42, Tryz.ntmps42
    go_wp2
    go_loopw [1, 5] (fun l i wr => l = .int .i64 (k : Int) ∧ i = .int .i64 0 ∧ wr = w) (fun _ _ _ => 0)
    case atStart => exact ⟨rfl, rfl, rfl⟩
    case round =>
      obtain ⟨rfl, rfl, rfl⟩ := hrel
      go_wp2
      go_ret
      exact ⟨rfl, Below.refl _ _⟩
  · obtain ⟨b, off, c, rfl, hnc, hcm, hcell⟩ := h.form (by omega)
    have hbl : b < w.heap.size := hv b rfl
    have HC := Lib.hid hcell
    unfold maxLen at hcm
    clear hcell h hv
    go_enter Tryz.func42, Tryz.ntmps42
    go_wp2
    go_loopw [1, 5] (fun l i wr => ∃ (j kk : Nat), j ≤ n ∧ Hid (kk = k + 3 * j) ∧ l = .int .i64 (kk : Int) ∧ i = .int .i64 (j : Int) ∧ Hid (Below w.heap.size w wr)) (fun _ i _ => n - (intOf i).toNat)
    case atStart => exact ⟨0, k, Nat.zero_le _, Lib.hid rfl, rfl, rfl, Lib.hid (Below.refl _ _)⟩
    case round =>
      obtain ⟨j, kk, hj, HK, rfl, rfl, HB⟩ := hrel
      have hkb : kk ≤ 103145728 := by have := HK.out; omega
      have hkb1 : 1 ≤ kk := by have := HK.out; omega
      by_cases hlt : j < n
      · have hlt' : j < (emarks k n).length := by rw [emarks_length]; exact hlt
        have hrd := ent_read (fun j u hu => (HB.out.cell hbl).trans (HC.out j u hu)) j hlt'
        rw [emarks_at, ← HK.out] at hrd
        obtain ⟨h1, h2, h3⟩ := hrd
        have h2' : wr.cell? ⟨b, off + j * 3 + 1, none⟩ = some (.int .i64 ((kk : Int) + 1)) := h2
        have h3' : wr.cell? ⟨b, off + j * 3 + 2, none⟩ = some (.int .i64 ((kk : Int) + 1 + 1)) := h3
        clear h2 h3
        have hj1 : (j : Int) < (n : Int) := by omega
        go_wp2
        go_roundw
        case rel => exact ⟨j + 1, kk + 3, by omega, Lib.hid (by have := HK.out; omega), by go_num, by go_num, HB⟩
        case measure => simp [intOf]; omega
      · have HKN := Lib.hid (show kk = k + 3 * n from by have := HK.out; omega)
        go_wp2
        go_ret
        exact ⟨ret_int (by rw [HKN.out]), HB.out⟩
end Go.Proofs.YtojjenclcidnkaaGreatDoor

/-
  Lists of sets and of numbers, and cores: marked, and asked for the marks.
-/
set_option maxRecDepth 100000
namespace Go.Proofs.YtojjenclcidnkaaGreatDoor
open Go.ChangeShapes Go.WideShapes Go.ChangeAt Go.RowKit Go.Proofs.Palim

/-- The marks of n sets from k on: seven cells of each. -/
def SMk (k : Nat) (xs : List Value) (n : Nat) : Prop := ∀ j, j < n → xs[j * 31]? = some (.string (mkText (k + j * 7))) ∧ xs[j * 31 + 1]? = some (.int .i64 ((k + j * 7 + 1 : Nat) : Int)) ∧ xs[j * 31 + 2]? = some (.string (mkText (k + j * 7 + 2))) ∧
  xs[j * 31 + 27]? = some (.int .i64 ((k + j * 7 + 3 : Nat) : Int)) ∧ xs[j * 31 + 28]? = some (.int .i64 ((k + j * 7 + 4 : Nat) : Int)) ∧ xs[j * 31 + 29]? = some (.int .i64 ((k + j * 7 + 5 : Nat) : Int)) ∧ xs[j * 31 + 30]? = some (.bool (decide ((k + j * 7 + 6) % 3 = 0)))
def set7 (xs : List Value) (m : Nat) (u0 u1 u2 u3 u4 u5 u6 : Value) : List Value := ((((((xs.set m u0).set (m + 1) u1).set (m + 2) u2).set (m + 27) u3).set (m + 27 + 1) u4).set (m + 27 + 2) u5).set (m + 30) u6
theorem set7_other {xs : List Value} {m i : Nat} {u0 u1 u2 u3 u4 u5 u6 : Value} (h0 : m ≠ i) (h1 : m + 1 ≠ i) (h2 : m + 2 ≠ i) (h3 : m + 27 ≠ i) (h4 : m + 27 + 1 ≠ i) (h5 : m + 27 + 2 ≠ i) (h6 : m + 30 ≠ i) : (set7 xs m u0 u1 u2 u3 u4 u5 u6)[i]? = xs[i]? := by
  unfold set7
  rw [List.getElem?_set_ne h6, List.getElem?_set_ne h5, List.getElem?_set_ne h4, List.getElem?_set_ne h3, List.getElem?_set_ne h2, List.getElem?_set_ne h1, List.getElem?_set_ne h0]
theorem set7_same {xs : List Value} {m : Nat} {u0 u1 u2 u3 u4 u5 u6 : Value} (hl : m + 30 < xs.length) : (set7 xs m u0 u1 u2 u3 u4 u5 u6)[m]? = some u0 ∧ (set7 xs m u0 u1 u2 u3 u4 u5 u6)[m + 1]? = some u1 ∧ (set7 xs m u0 u1 u2 u3 u4 u5 u6)[m + 2]? = some u2 ∧ (set7 xs m u0 u1 u2 u3 u4 u5 u6)[m + 27]? = some u3 ∧ (set7 xs m u0 u1 u2 u3 u4 u5 u6)[m + 27 + 1]? = some u4 ∧ (set7 xs m u0 u1 u2 u3 u4 u5 u6)[m + 27 + 2]? = some u5 ∧ (set7 xs m u0 u1 u2 u3 u4 u5 u6)[m + 30]? = some u6 := by
  unfold set7
  refine ⟨?_, ?_, ?_, ?_, ?_, ?_, ?_⟩
  · rw [List.getElem?_set_ne (by omega), List.getElem?_set_ne (by omega), List.getElem?_set_ne (by omega), List.getElem?_set_ne (by omega), List.getElem?_set_ne (by omega), List.getElem?_set_ne (by omega), List.getElem?_set_self (by omega)]
  · rw [List.getElem?_set_ne (by omega), List.getElem?_set_ne (by omega), List.getElem?_set_ne (by omega), List.getElem?_set_ne (by omega), List.getElem?_set_ne (by omega), List.getElem?_set_self (by simp only [List.length_set]; omega)]
  · rw [List.getElem?_set_ne (by omega), List.getElem?_set_ne (by omega), List.getElem?_set_ne (by omega), List.getElem?_set_ne (by omega), List.getElem?_set_self (by simp only [List.length_set]; omega)]
  · rw [List.getElem?_set_ne (by omega), List.getElem?_set_ne (by omega), List.getElem?_set_ne (by omega), List.getElem?_set_self (by simp only [List.length_set]; omega)]
  · rw [List.getElem?_set_ne (by omega), List.getElem?_set_ne (by omega), List.getElem?_set_self (by simp only [List.length_set]; omega)]
  · rw [List.getElem?_set_ne (by omega), List.getElem?_set_self (by simp only [List.length_set]; omega)]
  · rw [List.getElem?_set_self (by simp only [List.length_set]; omega)]
theorem SMk.more {k j : Nat} {xs : List Value} {u0 u1 u2 u3 u4 u5 u6 : Value} (h : SMk k xs j) (hl : j * 31 + 30 < xs.length) (h0 : u0 = .string (mkText (k + j * 7))) (h1 : u1 = .int .i64 ((k + j * 7 + 1 : Nat) : Int)) (h2 : u2 = .string (mkText (k + j * 7 + 2)))
    (h3 : u3 = .int .i64 ((k + j * 7 + 3 : Nat) : Int)) (h4 : u4 = .int .i64 ((k + j * 7 + 4 : Nat) : Int)) (h5 : u5 = .int .i64 ((k + j * 7 + 5 : Nat) : Int)) (h6 : u6 = .bool (decide ((k + j * 7 + 6) % 3 = 0))) : SMk k (set7 xs (j * 31) u0 u1 u2 u3 u4 u5 u6) (j + 1) := by
  subst h0 h1 h2 h3 h4 h5 h6
  intro i hi
  by_cases e : i = j
  · subst e
    exact set7_same hl
  · obtain ⟨a0, a1, a2, a3, a4, a5, a6⟩ := h i (by omega)
    refine ⟨?_, ?_, ?_, ?_, ?_, ?_, ?_⟩ <;> (rw [set7_other (by omega) (by omega) (by omega) (by omega) (by omega) (by omega) (by omega)]; assumption)

def MarkedS (k : Nat) (v : Value) (base n : Nat) (w : World) (e : Ending) (w' : World) : Prop :=
  e = .returned (.int .i64 ((k + n * 7 : Nat) : Int)) ∧ (∃ xs, w'.ownsRow base 70 31 v n xs ∧ SMk k xs n) ∧ Turned (fun b => v.ownBlock = some b) w w'

set_option maxHeartbeats 4000000 in
theorem markCoreSetS_any (v : Value) (n k base : Nat) (xs0 : List Value) (w : World) (h : w.ownsRow base 70 31 v n xs0) (hs : n ≤ 1048576) (hk0 : 1 ≤ k) (hk1 : k ≤ 100000000) :
    Calls Tryz.prog 37 #[v, .int .i64 (k : Int)] w (MarkedS k v base n w) := by
  by_cases hn : n = 0
  · subst hn
    obtain ⟨_, A, c, rfl, _, _, _⟩ := sl_of_own h
    have HO := Lib.hid h
    clear h
    go_enter Tryz.func37, Tryz.ntmps37
    go_wp2
    go_loopw [1, 5] (fun l i wr => l = .int .i64 (k : Int) ∧ i = .int .i64 0 ∧ wr = w) (fun _ _ _ => 0)
    case atStart => exact ⟨rfl, rfl, rfl⟩
    case round =>
      obtain ⟨rfl, rfl, rfl⟩ := hrel
      go_wp2
      go_ret
      exact ⟨rfl, ⟨_, HO.out, fun j hj => absurd hj (Nat.not_lt_zero _)⟩, Turned.refl _ _⟩
  · obtain ⟨g, cap, rfl, hbg, hgl⟩ := h.form (by omega)
    have hcp : cap ≤ maxLen ∧ n ≤ cap := by
      rcases h.2 with ⟨hv, _⟩ | ⟨g', cap', cur, hv, _, _, h1, h2, _⟩
      · cases hv
      · injection hv with e1 e2 e3
        subst e3
        exact ⟨h2, h1⟩
    obtain ⟨hcp1, hcp2⟩ := hcp
    unfold maxLen at hcp1
    have HO0 := Lib.hid h
    clear h
    go_enter Tryz.func37, Tryz.ntmps37
    go_wp2
    go_loopw [1, 5] (fun l i wr => ∃ (j kk : Nat) (xs : List Value), j ≤ n ∧ kk = k + j * 7 ∧ l = .int .i64 (kk : Int) ∧ i = .int .i64 (j : Int) ∧ Hid (wr.ownsRow base 70 31 (.slice (some ⟨g, 0, none⟩) n cap) n xs) ∧ Hid (SMk k xs j) ∧ Hid (Turned (fun b => b = g) w wr)) (fun _ i _ => n - (RowKit.intOf i).toNat)
    case atStart => exact ⟨0, k, _, Nat.zero_le _, by omega, rfl, rfl, HO0, Lib.hid (fun j hj => absurd hj (Nat.not_lt_zero _)), Lib.hid (Turned.refl _ _)⟩
    case round =>
      obtain ⟨j, kk, xs, hj, hkk, rfl, rfl, HO, HT, HW⟩ := hrel
      have HK := Lib.hid hkk
      have hkb : kk ≤ 107340032 := by omega
      have hkb1 : 1 ≤ kk := by omega
      clear hkk
      by_cases hlt : j < n
      · have hxl : xs.length = n * 31 := HO.out.1
        have HXL := Lib.hid hxl
        clear hxl
        go_wp2_with fail
        refine (markText_any kk _ hkb1 (by omega)).mono ?_
        rintro e w1 ⟨rfl, hb1⟩
        have HO1 := Lib.hid (own_kept HO.out (w' := w1) (fun b e => hb1.block b (HO.out.lt b e).2))
        have HW1 := Lib.hid (HW.out.trans (turned_of_below hb1))
        obtain ⟨⟨u0, _, hc0⟩, hf0, _, _⟩ := own_at HO1.out (j * 31) (by omega)
        obtain ⟨⟨u1, _, hc1⟩, hf1, _, _⟩ := own_at HO1.out (j * 31 + 1) (by omega)
        have HO2 := Lib.hid (own_setN (own_setN HO1.out (j * 31) (.string (mkText kk))) (j * 31 + 1) (.int .i64 ((kk : Int) + 1)))
        have HW2 := Lib.hid (turned_setCell (turned_setCell HW1.out (p := ⟨g, j * 31, none⟩) rfl (.string (mkText kk))) (p := ⟨g, j * 31 + 1, none⟩) rfl (.int .i64 ((kk : Int) + 1)))
        clear hb1 HO HW HO1 HW1
        go_wp2_with fail
        refine (markText_any (kk + 2) _ (by omega) (by omega)).mono ?_
        rintro e w3 ⟨rfl, hb3⟩
        have HO3 := Lib.hid (own_kept HO2.out (w' := w3) (fun b e => hb3.block b (HO2.out.lt b e).2))
        have HW3 := Lib.hid (HW2.out.trans (turned_of_below hb3))
        obtain ⟨⟨u2, _, hc2⟩, hf2, _, _⟩ := own_at HO3.out (j * 31 + 2) (by omega)
        obtain ⟨⟨u3, _, hc3⟩, hf3, _, _⟩ := own_at HO3.out (j * 31 + 27) (by omega)
        obtain ⟨⟨u4, _, hc4⟩, hf4, _, _⟩ := own_at HO3.out (j * 31 + 27 + 1) (by omega)
        obtain ⟨⟨u5, _, hc5⟩, hf5, _, _⟩ := own_at HO3.out (j * 31 + 27 + 2) (by omega)
        obtain ⟨⟨u6, _, hc6⟩, hf6, _, _⟩ := own_at HO3.out (j * 31 + 30) (by omega)
        have HO4 := Lib.hid (own_setN (own_setN (own_setN (own_setN (own_setN HO3.out (j * 31 + 2) (.string (mkText (kk + 2)))) (j * 31 + 27) (.int .i64 ((kk : Int) + 1 + 1 + 1))) (j * 31 + 27 + 1) (.int .i64 ((kk : Int) + 1 + 1 + 1 + 1))) (j * 31 + 27 + 2) (.int .i64 ((kk : Int) + 1 + 1 + 1 + 1 + 1))) (j * 31 + 30) (.bool (decide ((kk + 6) % 3 = 0))))
        have HW4 := Lib.hid (turned_setCell (turned_setCell (turned_setCell (turned_setCell (turned_setCell HW3.out (p := ⟨g, j * 31 + 2, none⟩) rfl (.string (mkText (kk + 2)))) (p := ⟨g, j * 31 + 27, none⟩) rfl (.int .i64 ((kk : Int) + 1 + 1 + 1))) (p := ⟨g, j * 31 + 27 + 1, none⟩) rfl (.int .i64 ((kk : Int) + 1 + 1 + 1 + 1))) (p := ⟨g, j * 31 + 27 + 2, none⟩) rfl (.int .i64 ((kk : Int) + 1 + 1 + 1 + 1 + 1))) (p := ⟨g, j * 31 + 30, none⟩) rfl (.bool (decide ((kk + 6) % 3 = 0))))
        have HT4 := Lib.hid (show SMk k (set7 xs (j * 31) (.string (mkText kk)) (.int .i64 ((kk : Int) + 1)) (.string (mkText (kk + 2))) (.int .i64 ((kk : Int) + 1 + 1 + 1)) (.int .i64 ((kk : Int) + 1 + 1 + 1 + 1)) (.int .i64 ((kk : Int) + 1 + 1 + 1 + 1 + 1)) (.bool (decide ((kk + 6) % 3 = 0)))) (j + 1) from by
          have hk := HK.out
          have hx := HXL.out
          exact SMk.more HT.out (by omega) (congrArg (fun n => Value.string (mkText n)) hk) (congrArg (Value.int .i64) (by omega)) (congrArg (fun n => Value.string (mkText (n + 2))) hk) (congrArg (Value.int .i64) (by omega)) (congrArg (Value.int .i64) (by omega)) (congrArg (Value.int .i64) (by omega)) (congrArg (fun n => Value.bool (decide ((n + 6) % 3 = 0))) hk))
        have hrem : (((kk : Int) + 1 + 1 + 1 + 1 + 1 + 1) % 3 == 0) = decide ((kk + 6) % 3 = 0) := by
          rw [show (kk : Int) + 1 + 1 + 1 + 1 + 1 + 1 = ((kk + 6 : Nat) : Int) by omega]
          by_cases h3 : (kk + 6) % 3 = 0
          · rw [decide_eq_true h3]; simp; omega
          · rw [decide_eq_false h3]; simp; omega
        clear hb3 HO2 HW2 HT HO3 HW3 hc0 hf0 hc1 hf1 HXL
        go_wp2
        go_roundw
        case rel => exact ⟨j + 1, kk + 7, _, by omega, by have := HK.out; omega, by go_num, by go_num, HO4, HT4, HW4⟩
        case measure => simp [RowKit.intOf]; omega
      · have hjn : j = n := by omega
        have HX := Lib.hid (show SMk k xs n from hjn ▸ HT.out)
        have HKN := Lib.hid (show kk = k + n * 7 from by rw [HK.out, hjn])
        clear hjn
        go_wp2
        go_ret
        refine ⟨?_, ⟨_, HO.out, HX.out⟩, HW.out.mono ?_⟩
        · exact ret_int (by rw [HKN.out])
        · rintro b _ rfl; rfl

set_option maxHeartbeats 1000000 in
theorem heldIntS_any (v : Value) (n k : Nat) (w : World) (h : Sl w 1 v n (ics (imarks k n))) (hv : ∀ b, v.ownBlock = some b → b < w.heap.size) (hs : n ≤ 1048576) (hk0 : 1 ≤ k) (hk1 : k ≤ 200000000) :
    Calls Tryz.prog 44 #[v, .int .i64 (k : Int)] w (HeldPost ((k + n : Nat) : Int) w) := by
  by_cases hn : n = 0
  · subst hn
    obtain ⟨_, A, c, rfl, _, _, _⟩ := h
    clear hv
    go_enter Tryz.func44, Tryz.ntmps44
    go_wp2
    go_loopw [1, 5] (fun l i wr => l = .int .i64 (k : Int) ∧ i = .int .i64 0 ∧ wr = w) (fun _ _ _ => 0)
    case atStart => exact ⟨rfl, rfl, rfl⟩
    case round =>
      obtain ⟨rfl, rfl, rfl⟩ := hrel
      go_wp2
      go_ret
      exact ⟨rfl, Below.refl _ _⟩
  · obtain ⟨b, off, c, rfl, hnc, hcm, hcell⟩ := h.form (by omega)
    have hbl : b < w.heap.size := hv b rfl
    have HC := Lib.hid hcell
    unfold maxLen at hcm
    clear hcell h hv
    go_enter Tryz.func44, Tryz.ntmps44
    go_wp2
    go_loopw [1, 5] (fun l i wr => ∃ (j kk : Nat), j ≤ n ∧ Hid (kk = k + j) ∧ l = .int .i64 (kk : Int) ∧ i = .int .i64 (j : Int) ∧ Hid (Below w.heap.size w wr)) (fun _ i _ => n - (RowKit.intOf i).toNat)
    case atStart => exact ⟨0, k, Nat.zero_le _, Lib.hid rfl, rfl, rfl, Lib.hid (Below.refl _ _)⟩
    case round =>
      obtain ⟨j, kk, hj, HK, rfl, rfl, HB⟩ := hrel
      have hkb : kk ≤ 201048576 := by have := HK.out; omega
      have hkb1 : 1 ≤ kk := by have := HK.out; omega
      by_cases hlt : j < n
      · have hrd : wr.cell? ⟨b, off + j, none⟩ = some (.int .i64 (kk : Int)) := by
          refine (HB.out.cell hbl).trans (HC.out j _ ?_)
          rw [ics_at _ j (by rw [imarks_length]; exact hlt), HK.out]
          simp [imarks]
        have hj1 : (j : Int) < (n : Int) := by omega
        go_wp2
        go_roundw
        case rel => exact ⟨j + 1, kk + 1, by omega, Lib.hid (by have := HK.out; omega), by go_num, by go_num, HB⟩
        case measure => simp [RowKit.intOf]; omega
      · have HKN := Lib.hid (show kk = k + n from by have := HK.out; omega)
        go_wp2
        go_ret
        exact ⟨ret_int (by rw [HKN.out]), HB.out⟩
end Go.Proofs.YtojjenclcidnkaaGreatDoor

/-
  A core of the call's own: each list belongs to it, and no two lie in one block; marked.
-/
set_option maxRecDepth 100000
namespace Go.Proofs.YtojjenclcidnkaaGreatDoor
open Go.ChangeShapes Go.WideShapes Go.ChangeAt Go.RowKit Go.Proofs.Palim

structure CoreOwn (w : World) (base : Nat) (vs vd vp vi : Value) (c : CoreM) : Prop where
  s : w.ownsRow base 70 31 vs c.sets.length (ccs c.sets)
  d : w.ownsRow base 135 3 vd c.ddt.length (ecs c.ddt)
  p : w.ownsRow base 67 3 vp c.parts.length (pcs c.parts)
  i : w.ownsRow base 3 1 vi c.safe.length (ics c.safe)
  sd : ∀ b, vs.ownBlock = some b → vd.ownBlock = some b → False
  sp : ∀ b, vs.ownBlock = some b → vp.ownBlock = some b → False
  si : ∀ b, vs.ownBlock = some b → vi.ownBlock = some b → False
  dp : ∀ b, vd.ownBlock = some b → vp.ownBlock = some b → False
  di : ∀ b, vd.ownBlock = some b → vi.ownBlock = some b → False
  pi : ∀ b, vp.ownBlock = some b → vi.ownBlock = some b → False
theorem CoreOwn.reads {w : World} {base : Nat} {vs vd vp vi : Value} {c : CoreM} (h : CoreOwn w base vs vd vp vi c) : CoreR w vs vd vp vi c :=
  ⟨sl_of_own h.s, sl_of_own h.d, sl_of_own h.p, sl_of_own h.i, low_of_own h.s, low_of_own h.d, low_of_own h.p, low_of_own h.i⟩
theorem CoreOwn.below {w w' : World} {base : Nat} {vs vd vp vi : Value} {c : CoreM} (h : CoreOwn w base vs vd vp vi c) (hb : Below w.heap.size w w') : CoreOwn w' base vs vd vp vi c :=
  ⟨own_kept h.s (fun b e => hb.block b (h.s.lt b e).2), own_kept h.d (fun b e => hb.block b (h.d.lt b e).2), own_kept h.p (fun b e => hb.block b (h.p.lt b e).2), own_kept h.i (fun b e => hb.block b (h.i.lt b e).2), h.sd, h.sp, h.si, h.dp, h.di, h.pi⟩
theorem CoreOwn.drew {w : World} {base : Nat} {vs vd vp vi : Value} {c : CoreM} (h : CoreOwn w base vs vd vp vi c) : CoreOwn w.drew base vs vd vp vi c := ⟨h.s, h.d, h.p, h.i, h.sd, h.sp, h.si, h.dp, h.di, h.pi⟩
theorem CoreOwn.base {w : World} {base base' : Nat} {vs vd vp vi : Value} {c : CoreM} (h : CoreOwn w base vs vd vp vi c) (hb : base' ≤ base) : CoreOwn w base' vs vd vp vi c :=
  ⟨own_base h.s hb, own_base h.d hb, own_base h.p hb, own_base h.i hb, h.sd, h.sp, h.si, h.dp, h.di, h.pi⟩
def NewCoreO (w : World) (c : CoreM) (e : Ending) (w' : World) : Prop :=
  ∃ vs vd vp vi, e = .returned (cv c vs vd vp vi) ∧ CoreOwn w' w.heap.size vs vd vp vi c ∧ Below w.heap.size w w'
/-- The blocks of a core's lists. -/
def CTurns (vs vd vp vi : Value) (b : Nat) : Prop := vs.ownBlock = some b ∨ vd.ownBlock = some b ∨ vp.ownBlock = some b ∨ vi.ownBlock = some b

set_option maxHeartbeats 2000000 in
theorem toCoreO_any (vs vd vp vi : Value) (c : CoreM) (w : World) (h : CoreR w vs vd vp vi c) (hs : CoreShort c) :
    Calls Tryz.prog 22 #[cv c vs vd vp vi] w (NewCoreO w c) := by
  obtain ⟨b1, b2, b3, hsz, hB⟩ := box3 w #[.int .i64 c.txg, vs, vd, vp, .bool c.dirty, vi, .int .i64 c.logn] #[.int .i64 0, .slice none 0 0, .slice none 0 0, .slice none 0 0, .bool false, .slice none 0 0, .int .i64 0] #[.int .i64 0, .slice none 0 0, .slice none 0 0, .slice none 0 0, .bool false, .slice none 0 0, .int .i64 0] 32 45 45
  have X1 := Lib.hid b1
  have X2 := Lib.hid b2
  have X3 := Lib.hid b3
  have B0 := Lib.hid hB
  have HR := Lib.hid h
  have HS := Lib.hid hs
  obtain ⟨A0, k0, A1, k1, A2, k2, A3, k3, rfl, rfl, rfl, rfl⟩ := h.forms
  clear b1 b2 b3 hB hsz h hs
  go_enter Tryz.func22, Tryz.ntmps22
  go_upto_region 2 with fail
  generalize ((w.alloc (.cells #[.int .i64 c.txg, .slice A0 c.sets.length k0, .slice A1 c.ddt.length k1, .slice A2 c.parts.length k2, .bool c.dirty, .slice A3 c.safe.length k3, .int .i64 c.logn] 32)).alloc (.cells #[.int .i64 0, .slice none 0 0, .slice none 0 0, .slice none 0 0, .bool false, .slice none 0 0, .int .i64 0] 45)).alloc (.cells #[.int .i64 0, .slice none 0 0, .slice none 0 0, .slice none 0 0, .bool false, .slice none 0 0, .int .i64 0] 45) = W at X1 X2 X3 B0 ⊢
  have n0 := X1.out.cell 0 rfl
  have c0 := X3.out.cell 0 rfl
  have f0 := X3.out.open_ 0
  have Y1 := Lib.hid (X1.out.other (p := ⟨w.heap.size + 1 + 1, 0, none⟩) (by simp; omega) (.int .i64 c.txg))
  have Y2 := Lib.hid (X2.out.other (p := ⟨w.heap.size + 1 + 1, 0, none⟩) (by simp) (.int .i64 c.txg))
  have Y3 := Lib.hid (show Box (W.setCell ⟨w.heap.size + 1 + 1, 0, none⟩ (.int .i64 c.txg)) (w.heap.size + 1 + 1) [.int .i64 c.txg, .slice none 0 0, .slice none 0 0, .slice none 0 0, .bool false, .slice none 0 0, .int .i64 0] from X3.out.set 0 (.int .i64 c.txg))
  have B1 := Lib.hid (B0.out.setCell (p := ⟨w.heap.size + 1 + 1, 0, none⟩) (by simp; omega) (.int .i64 c.txg))
  clear X1 X2 X3 B0
  go_upto_region 3 with fail
  generalize W.setCell ⟨w.heap.size + 1 + 1, 0, none⟩ (.int .i64 c.txg) = W0 at Y1 Y2 Y3 B1 ⊢
  clear c0 f0 n0
  have X1 := Y1
  have X2 := Y2
  have X3 := Y3
  have B0 := B1
  clear Y1 Y2 Y3 B1
  have n1 := X1.out.cell 1 rfl
  have hl1 : w.heap.size + 1 + 1 < W0.heap.size := X3.out.lt
  go_wp2_with fail
  refine (toCoreSetS_any _ c.sets _ (HR.out.s.below B0.out (fun b e => HR.out.ls b e)) (fun b e => Nat.lt_of_lt_of_le (HR.out.ls b e) B0.out.size) HS.out.s).mono ?_
  rintro e wc1 ⟨us, rfl, hown, hb⟩
  have O1 := Lib.hid hown
  obtain ⟨_, E1, d1, rfl, _, _, _⟩ := sl_of_own hown
  have Y1 := Lib.hid (X1.out.below hb X1.out.lt)
  have Y2 := Lib.hid (X2.out.below hb X2.out.lt)
  have Y3 := Lib.hid (X3.out.below hb X3.out.lt)
  have B1 := Lib.hid (B0.out.trans (hb.mono B0.out.size))
  clear hb hown X1 X2 X3 B0 n1
  have X1 := Y1
  have X2 := Y2
  have X3 := Y3
  have B0 := B1
  clear Y1 Y2 Y3 B1
  have c1 := X3.out.cell 1 rfl
  have f1 := X3.out.open_ 1
  have Y1 := Lib.hid (X1.out.other (p := ⟨w.heap.size + 1 + 1, 1, none⟩) (by simp; omega) (.slice E1 c.sets.length d1))
  have Y2 := Lib.hid (X2.out.other (p := ⟨w.heap.size + 1 + 1, 1, none⟩) (by simp) (.slice E1 c.sets.length d1))
  have Y3 := Lib.hid (show Box (wc1.setCell ⟨w.heap.size + 1 + 1, 1, none⟩ (.slice E1 c.sets.length d1)) (w.heap.size + 1 + 1) [.int .i64 c.txg, .slice E1 c.sets.length d1, .slice none 0 0, .slice none 0 0, .bool false, .slice none 0 0, .int .i64 0] from X3.out.set 1 (.slice E1 c.sets.length d1))
  have B1 := Lib.hid (B0.out.setCell (p := ⟨w.heap.size + 1 + 1, 1, none⟩) (by simp; omega) (.slice E1 c.sets.length d1))
  clear X1 X2 X3 B0
  have O1n := Lib.hid (own_kept O1.out (w' := wc1.setCell ⟨w.heap.size + 1 + 1, 1, none⟩ (.slice E1 c.sets.length d1)) (fun b e => Below.heap_setCell _ _ _ _ (by have := (O1.out.lt b e).1; simp; omega)))
  clear O1
  go_upto_region 4 with fail
  generalize wc1.setCell ⟨w.heap.size + 1 + 1, 1, none⟩ (.slice E1 c.sets.length d1) = W1 at Y1 Y2 Y3 B1 O1n ⊢
  clear c1 f1
  have O1 := O1n
  clear O1n
  have X1 := Y1
  have X2 := Y2
  have X3 := Y3
  have B0 := B1
  clear Y1 Y2 Y3 B1
  have n2 := X1.out.cell 2 rfl
  have hl2 : w.heap.size + 1 + 1 < W1.heap.size := X3.out.lt
  have S12 := Lib.hid (fun b (e : (Value.slice E1 c.sets.length d1).ownBlock = some b) => (O1.out.lt b e).2)
  go_wp2_with fail
  refine (toDdtEntryS_any _ c.ddt _ (HR.out.d.below B0.out (fun b e => HR.out.ld b e)) (fun b e => Nat.lt_of_lt_of_le (HR.out.ld b e) B0.out.size) HS.out.d).mono ?_
  rintro e wc2 ⟨ud, rfl, hown, hb⟩
  have O2 := Lib.hid hown
  obtain ⟨_, E2, d2, rfl, _, _, _⟩ := sl_of_own hown
  have Y1 := Lib.hid (X1.out.below hb X1.out.lt)
  have Y2 := Lib.hid (X2.out.below hb X2.out.lt)
  have Y3 := Lib.hid (X3.out.below hb X3.out.lt)
  have B1 := Lib.hid (B0.out.trans (hb.mono B0.out.size))
  have O1n := Lib.hid (own_kept O1.out (w' := wc2) (fun b e => hb.block b (O1.out.lt b e).2))
  clear O1
  clear hb hown X1 X2 X3 B0 n2
  have X1 := Y1
  have X2 := Y2
  have X3 := Y3
  have B0 := B1
  clear Y1 Y2 Y3 B1
  have O1 := O1n
  clear O1n
  have c2 := X3.out.cell 2 rfl
  have f2 := X3.out.open_ 2
  have Y1 := Lib.hid (X1.out.other (p := ⟨w.heap.size + 1 + 1, 2, none⟩) (by simp; omega) (.slice E2 c.ddt.length d2))
  have Y2 := Lib.hid (X2.out.other (p := ⟨w.heap.size + 1 + 1, 2, none⟩) (by simp) (.slice E2 c.ddt.length d2))
  have Y3 := Lib.hid (show Box (wc2.setCell ⟨w.heap.size + 1 + 1, 2, none⟩ (.slice E2 c.ddt.length d2)) (w.heap.size + 1 + 1) [.int .i64 c.txg, .slice E1 c.sets.length d1, .slice E2 c.ddt.length d2, .slice none 0 0, .bool false, .slice none 0 0, .int .i64 0] from X3.out.set 2 (.slice E2 c.ddt.length d2))
  have B1 := Lib.hid (B0.out.setCell (p := ⟨w.heap.size + 1 + 1, 2, none⟩) (by simp; omega) (.slice E2 c.ddt.length d2))
  clear X1 X2 X3 B0
  have O1n := Lib.hid (own_kept O1.out (w' := wc2.setCell ⟨w.heap.size + 1 + 1, 2, none⟩ (.slice E2 c.ddt.length d2)) (fun b e => Below.heap_setCell _ _ _ _ (by have := (O1.out.lt b e).1; simp; omega)))
  clear O1
  have O2n := Lib.hid (own_kept O2.out (w' := wc2.setCell ⟨w.heap.size + 1 + 1, 2, none⟩ (.slice E2 c.ddt.length d2)) (fun b e => Below.heap_setCell _ _ _ _ (by have := (O2.out.lt b e).1; simp; omega)))
  clear O2
  go_upto_region 5 with fail
  generalize wc2.setCell ⟨w.heap.size + 1 + 1, 2, none⟩ (.slice E2 c.ddt.length d2) = W2 at Y1 Y2 Y3 B1 O1n O2n ⊢
  clear c2 f2
  have O1 := O1n
  clear O1n
  have O2 := O2n
  clear O2n
  have X1 := Y1
  have X2 := Y2
  have X3 := Y3
  have B0 := B1
  clear Y1 Y2 Y3 B1
  have n3 := X1.out.cell 3 rfl
  have hl3 : w.heap.size + 1 + 1 < W2.heap.size := X3.out.lt
  have S13 := Lib.hid (fun b (e : (Value.slice E1 c.sets.length d1).ownBlock = some b) => (O1.out.lt b e).2)
  have S23 := Lib.hid (fun b (e : (Value.slice E2 c.ddt.length d2).ownBlock = some b) => (O2.out.lt b e).2)
  go_wp2_with fail
  refine (toPtrS_any _ c.parts _ (HR.out.p.below B0.out (fun b e => HR.out.lp b e)) (fun b e => Nat.lt_of_lt_of_le (HR.out.lp b e) B0.out.size) HS.out.p).mono ?_
  rintro e wc3 ⟨up, rfl, hown, hb⟩
  have O3 := Lib.hid hown
  obtain ⟨_, E3, d3, rfl, _, _, _⟩ := sl_of_own hown
  have Y1 := Lib.hid (X1.out.below hb X1.out.lt)
  have Y2 := Lib.hid (X2.out.below hb X2.out.lt)
  have Y3 := Lib.hid (X3.out.below hb X3.out.lt)
  have B1 := Lib.hid (B0.out.trans (hb.mono B0.out.size))
  have O1n := Lib.hid (own_kept O1.out (w' := wc3) (fun b e => hb.block b (O1.out.lt b e).2))
  clear O1
  have O2n := Lib.hid (own_kept O2.out (w' := wc3) (fun b e => hb.block b (O2.out.lt b e).2))
  clear O2
  clear hb hown X1 X2 X3 B0 n3
  have X1 := Y1
  have X2 := Y2
  have X3 := Y3
  have B0 := B1
  clear Y1 Y2 Y3 B1
  have O1 := O1n
  clear O1n
  have O2 := O2n
  clear O2n
  have c3 := X3.out.cell 3 rfl
  have f3 := X3.out.open_ 3
  have Y1 := Lib.hid (X1.out.other (p := ⟨w.heap.size + 1 + 1, 3, none⟩) (by simp; omega) (.slice E3 c.parts.length d3))
  have Y2 := Lib.hid (X2.out.other (p := ⟨w.heap.size + 1 + 1, 3, none⟩) (by simp) (.slice E3 c.parts.length d3))
  have Y3 := Lib.hid (show Box (wc3.setCell ⟨w.heap.size + 1 + 1, 3, none⟩ (.slice E3 c.parts.length d3)) (w.heap.size + 1 + 1) [.int .i64 c.txg, .slice E1 c.sets.length d1, .slice E2 c.ddt.length d2, .slice E3 c.parts.length d3, .bool false, .slice none 0 0, .int .i64 0] from X3.out.set 3 (.slice E3 c.parts.length d3))
  have B1 := Lib.hid (B0.out.setCell (p := ⟨w.heap.size + 1 + 1, 3, none⟩) (by simp; omega) (.slice E3 c.parts.length d3))
  clear X1 X2 X3 B0
  have O1n := Lib.hid (own_kept O1.out (w' := wc3.setCell ⟨w.heap.size + 1 + 1, 3, none⟩ (.slice E3 c.parts.length d3)) (fun b e => Below.heap_setCell _ _ _ _ (by have := (O1.out.lt b e).1; simp; omega)))
  clear O1
  have O2n := Lib.hid (own_kept O2.out (w' := wc3.setCell ⟨w.heap.size + 1 + 1, 3, none⟩ (.slice E3 c.parts.length d3)) (fun b e => Below.heap_setCell _ _ _ _ (by have := (O2.out.lt b e).1; simp; omega)))
  clear O2
  have O3n := Lib.hid (own_kept O3.out (w' := wc3.setCell ⟨w.heap.size + 1 + 1, 3, none⟩ (.slice E3 c.parts.length d3)) (fun b e => Below.heap_setCell _ _ _ _ (by have := (O3.out.lt b e).1; simp; omega)))
  clear O3
  go_upto_region 6 with fail
  generalize wc3.setCell ⟨w.heap.size + 1 + 1, 3, none⟩ (.slice E3 c.parts.length d3) = W3 at Y1 Y2 Y3 B1 O1n O2n O3n ⊢
  clear c3 f3
  have O1 := O1n
  clear O1n
  have O2 := O2n
  clear O2n
  have O3 := O3n
  clear O3n
  have X1 := Y1
  have X2 := Y2
  have X3 := Y3
  have B0 := B1
  clear Y1 Y2 Y3 B1
  have n4 := X1.out.cell 4 rfl
  have c4 := X3.out.cell 4 rfl
  have f4 := X3.out.open_ 4
  have Y1 := Lib.hid (X1.out.other (p := ⟨w.heap.size + 1 + 1, 4, none⟩) (by simp; omega) (.bool c.dirty))
  have Y2 := Lib.hid (X2.out.other (p := ⟨w.heap.size + 1 + 1, 4, none⟩) (by simp) (.bool c.dirty))
  have Y3 := Lib.hid (show Box (W3.setCell ⟨w.heap.size + 1 + 1, 4, none⟩ (.bool c.dirty)) (w.heap.size + 1 + 1) [.int .i64 c.txg, .slice E1 c.sets.length d1, .slice E2 c.ddt.length d2, .slice E3 c.parts.length d3, .bool c.dirty, .slice none 0 0, .int .i64 0] from X3.out.set 4 (.bool c.dirty))
  have B1 := Lib.hid (B0.out.setCell (p := ⟨w.heap.size + 1 + 1, 4, none⟩) (by simp; omega) (.bool c.dirty))
  clear X1 X2 X3 B0
  have O1n := Lib.hid (own_kept O1.out (w' := W3.setCell ⟨w.heap.size + 1 + 1, 4, none⟩ (.bool c.dirty)) (fun b e => Below.heap_setCell _ _ _ _ (by have := (O1.out.lt b e).1; simp; omega)))
  clear O1
  have O2n := Lib.hid (own_kept O2.out (w' := W3.setCell ⟨w.heap.size + 1 + 1, 4, none⟩ (.bool c.dirty)) (fun b e => Below.heap_setCell _ _ _ _ (by have := (O2.out.lt b e).1; simp; omega)))
  clear O2
  have O3n := Lib.hid (own_kept O3.out (w' := W3.setCell ⟨w.heap.size + 1 + 1, 4, none⟩ (.bool c.dirty)) (fun b e => Below.heap_setCell _ _ _ _ (by have := (O3.out.lt b e).1; simp; omega)))
  clear O3
  go_upto_region 7 with fail
  generalize W3.setCell ⟨w.heap.size + 1 + 1, 4, none⟩ (.bool c.dirty) = W4 at Y1 Y2 Y3 B1 O1n O2n O3n ⊢
  clear c4 f4
  have O1 := O1n
  clear O1n
  have O2 := O2n
  clear O2n
  have O3 := O3n
  clear O3n
  have X1 := Y1
  have X2 := Y2
  have X3 := Y3
  have B0 := B1
  clear Y1 Y2 Y3 B1
  clear n4
  have n5 := X1.out.cell 5 rfl
  have hl5 : w.heap.size + 1 + 1 < W4.heap.size := X3.out.lt
  have S15 := Lib.hid (fun b (e : (Value.slice E1 c.sets.length d1).ownBlock = some b) => (O1.out.lt b e).2)
  have S25 := Lib.hid (fun b (e : (Value.slice E2 c.ddt.length d2).ownBlock = some b) => (O2.out.lt b e).2)
  have S35 := Lib.hid (fun b (e : (Value.slice E3 c.parts.length d3).ownBlock = some b) => (O3.out.lt b e).2)
  go_wp2_with fail
  refine (toIntS_b _ c.safe _ (HR.out.i.below B0.out (fun b e => HR.out.li b e)) HS.out.i).mono ?_
  rintro e wc5 ⟨ui, rfl, hown, hb⟩
  have O5 := Lib.hid hown
  obtain ⟨_, E5, d5, rfl, _, _, _⟩ := sl_of_own hown
  have Y1 := Lib.hid (X1.out.below hb X1.out.lt)
  have Y2 := Lib.hid (X2.out.below hb X2.out.lt)
  have Y3 := Lib.hid (X3.out.below hb X3.out.lt)
  have B1 := Lib.hid (B0.out.trans (hb.mono B0.out.size))
  have O1n := Lib.hid (own_kept O1.out (w' := wc5) (fun b e => hb.block b (O1.out.lt b e).2))
  clear O1
  have O2n := Lib.hid (own_kept O2.out (w' := wc5) (fun b e => hb.block b (O2.out.lt b e).2))
  clear O2
  have O3n := Lib.hid (own_kept O3.out (w' := wc5) (fun b e => hb.block b (O3.out.lt b e).2))
  clear O3
  clear hb hown X1 X2 X3 B0 n5
  have X1 := Y1
  have X2 := Y2
  have X3 := Y3
  have B0 := B1
  clear Y1 Y2 Y3 B1
  have O1 := O1n
  clear O1n
  have O2 := O2n
  clear O2n
  have O3 := O3n
  clear O3n
  have c5 := X3.out.cell 5 rfl
  have f5 := X3.out.open_ 5
  have Y1 := Lib.hid (X1.out.other (p := ⟨w.heap.size + 1 + 1, 5, none⟩) (by simp; omega) (.slice E5 c.safe.length d5))
  have Y2 := Lib.hid (X2.out.other (p := ⟨w.heap.size + 1 + 1, 5, none⟩) (by simp) (.slice E5 c.safe.length d5))
  have Y3 := Lib.hid (show Box (wc5.setCell ⟨w.heap.size + 1 + 1, 5, none⟩ (.slice E5 c.safe.length d5)) (w.heap.size + 1 + 1) [.int .i64 c.txg, .slice E1 c.sets.length d1, .slice E2 c.ddt.length d2, .slice E3 c.parts.length d3, .bool c.dirty, .slice E5 c.safe.length d5, .int .i64 0] from X3.out.set 5 (.slice E5 c.safe.length d5))
  have B1 := Lib.hid (B0.out.setCell (p := ⟨w.heap.size + 1 + 1, 5, none⟩) (by simp; omega) (.slice E5 c.safe.length d5))
  clear X1 X2 X3 B0
  have O1n := Lib.hid (own_kept O1.out (w' := wc5.setCell ⟨w.heap.size + 1 + 1, 5, none⟩ (.slice E5 c.safe.length d5)) (fun b e => Below.heap_setCell _ _ _ _ (by have := (O1.out.lt b e).1; simp; omega)))
  clear O1
  have O2n := Lib.hid (own_kept O2.out (w' := wc5.setCell ⟨w.heap.size + 1 + 1, 5, none⟩ (.slice E5 c.safe.length d5)) (fun b e => Below.heap_setCell _ _ _ _ (by have := (O2.out.lt b e).1; simp; omega)))
  clear O2
  have O3n := Lib.hid (own_kept O3.out (w' := wc5.setCell ⟨w.heap.size + 1 + 1, 5, none⟩ (.slice E5 c.safe.length d5)) (fun b e => Below.heap_setCell _ _ _ _ (by have := (O3.out.lt b e).1; simp; omega)))
  clear O3
  have O5n := Lib.hid (own_kept O5.out (w' := wc5.setCell ⟨w.heap.size + 1 + 1, 5, none⟩ (.slice E5 c.safe.length d5)) (fun b e => Below.heap_setCell _ _ _ _ (by have := (O5.out.lt b e).1; simp; omega)))
  clear O5
  go_upto_region 8 with fail
  generalize wc5.setCell ⟨w.heap.size + 1 + 1, 5, none⟩ (.slice E5 c.safe.length d5) = W5 at Y1 Y2 Y3 B1 O1n O2n O3n O5n ⊢
  clear c5 f5
  have O1 := O1n
  clear O1n
  have O2 := O2n
  clear O2n
  have O3 := O3n
  clear O3n
  have O5 := O5n
  clear O5n
  have X1 := Y1
  have X2 := Y2
  have X3 := Y3
  have B0 := B1
  clear Y1 Y2 Y3 B1
  have n6 := X1.out.cell 6 rfl
  have c6 := X3.out.cell 6 rfl
  have f6 := X3.out.open_ 6
  have Y1 := Lib.hid (X1.out.other (p := ⟨w.heap.size + 1 + 1, 6, none⟩) (by simp; omega) (.int .i64 c.logn))
  have Y2 := Lib.hid (X2.out.other (p := ⟨w.heap.size + 1 + 1, 6, none⟩) (by simp) (.int .i64 c.logn))
  have Y3 := Lib.hid (show Box (W5.setCell ⟨w.heap.size + 1 + 1, 6, none⟩ (.int .i64 c.logn)) (w.heap.size + 1 + 1) [.int .i64 c.txg, .slice E1 c.sets.length d1, .slice E2 c.ddt.length d2, .slice E3 c.parts.length d3, .bool c.dirty, .slice E5 c.safe.length d5, .int .i64 c.logn] from X3.out.set 6 (.int .i64 c.logn))
  have B1 := Lib.hid (B0.out.setCell (p := ⟨w.heap.size + 1 + 1, 6, none⟩) (by simp; omega) (.int .i64 c.logn))
  clear X1 X2 X3 B0
  have O1n := Lib.hid (own_kept O1.out (w' := W5.setCell ⟨w.heap.size + 1 + 1, 6, none⟩ (.int .i64 c.logn)) (fun b e => Below.heap_setCell _ _ _ _ (by have := (O1.out.lt b e).1; simp; omega)))
  clear O1
  have O2n := Lib.hid (own_kept O2.out (w' := W5.setCell ⟨w.heap.size + 1 + 1, 6, none⟩ (.int .i64 c.logn)) (fun b e => Below.heap_setCell _ _ _ _ (by have := (O2.out.lt b e).1; simp; omega)))
  clear O2
  have O3n := Lib.hid (own_kept O3.out (w' := W5.setCell ⟨w.heap.size + 1 + 1, 6, none⟩ (.int .i64 c.logn)) (fun b e => Below.heap_setCell _ _ _ _ (by have := (O3.out.lt b e).1; simp; omega)))
  clear O3
  have O5n := Lib.hid (own_kept O5.out (w' := W5.setCell ⟨w.heap.size + 1 + 1, 6, none⟩ (.int .i64 c.logn)) (fun b e => Below.heap_setCell _ _ _ _ (by have := (O5.out.lt b e).1; simp; omega)))
  clear O5
  go_upto_region 9 with fail
  generalize W5.setCell ⟨w.heap.size + 1 + 1, 6, none⟩ (.int .i64 c.logn) = W6 at Y1 Y2 Y3 B1 O1n O2n O3n O5n ⊢
  clear c6 f6
  have O1 := O1n
  clear O1n
  have O2 := O2n
  clear O2n
  have O3 := O3n
  clear O3n
  have O5 := O5n
  clear O5n
  have X1 := Y1
  have X2 := Y2
  have X3 := Y3
  have B0 := B1
  clear Y1 Y2 Y3 B1
  clear n6
  have HPF := Lib.hid (Box.putAll X2.out [.int .i64 c.txg, .slice E1 c.sets.length d1, .slice E2 c.ddt.length d2, .slice E3 c.parts.length d3, .bool c.dirty, .slice E5 c.safe.length d5, .int .i64 c.logn] rfl)
  have HBF := Lib.hid (putC_below B0.out (w.heap.size + 1) 0 (by omega) [.int .i64 c.txg, .slice E1 c.sets.length d1, .slice E2 c.ddt.length d2, .slice E3 c.parts.length d3, .bool c.dirty, .slice E5 c.safe.length d5, .int .i64 c.logn])
  have Q1 := Lib.hid (own_kept O1.out (w' := putC W6 (w.heap.size + 1) 0 [.int .i64 c.txg, .slice E1 c.sets.length d1, .slice E2 c.ddt.length d2, .slice E3 c.parts.length d3, .bool c.dirty, .slice E5 c.safe.length d5, .int .i64 c.logn]) (fun b e => putC_heap _ _ _ _ _ (by have := (O1.out.lt b e).1; omega)))
  have Q2 := Lib.hid (own_kept O2.out (w' := putC W6 (w.heap.size + 1) 0 [.int .i64 c.txg, .slice E1 c.sets.length d1, .slice E2 c.ddt.length d2, .slice E3 c.parts.length d3, .bool c.dirty, .slice E5 c.safe.length d5, .int .i64 c.logn]) (fun b e => putC_heap _ _ _ _ _ (by have := (O2.out.lt b e).1; omega)))
  have Q3 := Lib.hid (own_kept O3.out (w' := putC W6 (w.heap.size + 1) 0 [.int .i64 c.txg, .slice E1 c.sets.length d1, .slice E2 c.ddt.length d2, .slice E3 c.parts.length d3, .bool c.dirty, .slice E5 c.safe.length d5, .int .i64 c.logn]) (fun b e => putC_heap _ _ _ _ _ (by have := (O3.out.lt b e).1; omega)))
  have Q5 := Lib.hid (own_kept O5.out (w' := putC W6 (w.heap.size + 1) 0 [.int .i64 c.txg, .slice E1 c.sets.length d1, .slice E2 c.ddt.length d2, .slice E3 c.parts.length d3, .bool c.dirty, .slice E5 c.safe.length d5, .int .i64 c.logn]) (fun b e => putC_heap _ _ _ _ _ (by have := (O5.out.lt b e).1; omega)))
  go_wp2_with (first | (refine wpList_load_box rfl _ rfl aggCore rfl [.int .i64 c.txg, .slice E1 c.sets.length d1, .slice E2 c.ddt.length d2, .slice E3 c.parts.length d3, .bool c.dirty, .slice E5 c.safe.length d5, .int .i64 c.logn] rfl X3.out ?_) | (refine wpList_store_box rfl _ _ rfl rfl aggCore rfl [.int .i64 c.txg, .slice E1 c.sets.length d1, .slice E2 c.ddt.length d2, .slice E3 c.parts.length d3, .bool c.dirty, .slice E5 c.safe.length d5, .int .i64 c.logn] rfl rfl (by simp [Value.oneCell']) _ X2.out rfl ?_; generalize putC W6 (w.heap.size + 1) 0 [.int .i64 c.txg, .slice E1 c.sets.length d1, .slice E2 c.ddt.length d2, .slice E3 c.parts.length d3, .bool c.dirty, .slice E5 c.safe.length d5, .int .i64 c.logn] = WF at HPF HBF Q1 Q2 Q3 Q5 ⊢))
  refine bodyPost_ret (results_box rfl _ (w.heap.size + 1) [.int .i64 c.txg, .slice E1 c.sets.length d1, .slice E2 c.ddt.length d2, .slice E3 c.parts.length d3, .bool c.dirty, .slice E5 c.safe.length d5, .int .i64 c.logn] aggCore rfl rfl HPF.out) rfl ⟨_, _, _, _, rfl, ⟨own_base Q1.out (by omega), own_base Q2.out (by omega), own_base Q3.out (by omega), own_base Q5.out (by omega),
    fun b e1 e2 => by have := S12.out b e1; have := (Q2.out.lt b e2).1; omega, fun b e1 e2 => by have := S13.out b e1; have := (Q3.out.lt b e2).1; omega, fun b e1 e2 => by have := S15.out b e1; have := (Q5.out.lt b e2).1; omega,
    fun b e1 e2 => by have := S23.out b e1; have := (Q3.out.lt b e2).1; omega, fun b e1 e2 => by have := S25.out b e1; have := (Q5.out.lt b e2).1; omega, fun b e1 e2 => by have := S35.out b e1; have := (Q5.out.lt b e2).1; omega⟩, HBF.out⟩

set_option maxHeartbeats 2000000 in
theorem markCore_any (vs vd vp vi : Value) (c : CoreM) (k base : Nat) (w : World) (h : CoreOwn w base vs vd vp vi c) (hs : CoreShort c) (hk0 : 1 ≤ k) (hk1 : k ≤ 50000000) :
    Calls Tryz.prog 13 #[cv c vs vd vp vi, .int .i64 (k : Int)] w fun e w' => e = .returned (.int .i64 ((k + c.sets.length * 7 + 3 * c.ddt.length + 3 * c.parts.length + c.safe.length : Nat) : Int)) ∧ Turned (CTurns vs vd vp vi) w w' := by
  have HO := Lib.hid h
  have HS := Lib.hid hs
  have h1 := hs.s
  have h2 := hs.d
  have h3 := hs.p
  have h4 := hs.i
  obtain ⟨A0, k0, A1, k1, A2, k2, A3, k3, rfl, rfl, rfl, rfl⟩ := h.reads.forms
  have hn : Below w.heap.size w (w.alloc (.cells #[.int .i64 c.txg, .slice A0 c.sets.length k0, .slice A1 c.ddt.length k1, .slice A2 c.parts.length k2, .bool c.dirty, .slice A3 c.safe.length k3, .int .i64 c.logn] 45)) := (Below.refl _ w).alloc (Nat.le_refl _) _
  have XC := Lib.hid (show Box _ w.heap.size [.int .i64 c.txg, .slice A0 c.sets.length k0, .slice A1 c.ddt.length k1, .slice A2 c.parts.length k2, .bool c.dirty, .slice A3 c.safe.length k3, .int .i64 c.logn] from box_new w #[.int .i64 c.txg, .slice A0 c.sets.length k0, .slice A1 c.ddt.length k1, .slice A2 c.parts.length k2, .bool c.dirty, .slice A3 c.safe.length k3, .int .i64 c.logn] 45)
  have HO1 := Lib.hid (HO.out.below hn)
  have HT1 := Lib.hid (turned_of_below (S := CTurns (.slice A0 c.sets.length k0) (.slice A1 c.ddt.length k1) (.slice A2 c.parts.length k2) (.slice A3 c.safe.length k3)) hn)
  have HN := Lib.hid (show ∀ b, CTurns (.slice A0 c.sets.length k0) (.slice A1 c.ddt.length k1) (.slice A2 c.parts.length k2) (.slice A3 c.safe.length k3) b → b ≠ w.heap.size from fun b e => by
    rcases e with e | e | e | e
    · have := (HO.out.s.lt b e).2; omega
    · have := (HO.out.d.lt b e).2; omega
    · have := (HO.out.p.lt b e).2; omega
    · have := (HO.out.i.lt b e).2; omega)
  clear h hs hn HO
  go_enter Tryz.func13, Tryz.ntmps13
  go_upto_region 1 with fail
  obtain ⟨W0, HWE⟩ : ∃ W0, w.alloc (.cells #[.int .i64 c.txg, .slice A0 c.sets.length k0, .slice A1 c.ddt.length k1, .slice A2 c.parts.length k2, .bool c.dirty, .slice A3 c.safe.length k3, .int .i64 c.logn] 45) = W0 := ⟨_, rfl⟩
  rw [HWE] at XC HO1 HT1 ⊢
  clear HWE
  have n1 := XC.out.cell 1 rfl
  go_wp2_with fail
  refine (markCoreSetS_any _ _ k base _ _ HO1.out.s h1 hk0 (by omega)).mono ?_
  rintro e w2 ⟨rfl, -, ht⟩
  have XC2 := Lib.hid (XC.out.kept (ht.block _ XC.out.lt (fun e => HN.out _ (Or.inl e) rfl)))
  have HT2 := Lib.hid (HT1.out.trans (ht.mono (fun b _ e => Or.inl e)))
  have OD2 := Lib.hid (own_kept HO1.out.d (w' := w2) (fun b e => ht.block b (HO1.out.d.lt b e).2 (fun e' => HO1.out.sd b e' e)))
  have OP2 := Lib.hid (own_kept HO1.out.p (w' := w2) (fun b e => ht.block b (HO1.out.p.lt b e).2 (fun e' => HO1.out.sp b e' e)))
  have OI2 := Lib.hid (own_kept HO1.out.i (w' := w2) (fun b e => ht.block b (HO1.out.i.lt b e).2 (fun e' => HO1.out.si b e' e)))
  clear n1 XC HT1 ht
  have n2 := XC2.out.cell 2 rfl
  go_wp2_with fail
  refine (markDdtEntryS_any _ _ (k + c.sets.length * 7) base _ _ OD2.out h2 (by omega) (by omega)).mono ?_
  rintro e w3 ⟨rfl, -, ht⟩
  have XC3 := Lib.hid (XC2.out.kept (ht.block _ XC2.out.lt (fun e => HN.out _ (Or.inr (Or.inl e)) rfl)))
  have HT3 := Lib.hid (HT2.out.trans (ht.mono (fun b _ e => Or.inr (Or.inl e))))
  have OP3 := Lib.hid (own_kept OP2.out (w' := w3) (fun b e => ht.block b (OP2.out.lt b e).2 (fun e' => HO1.out.dp b e' e)))
  have OI3 := Lib.hid (own_kept OI2.out (w' := w3) (fun b e => ht.block b (OI2.out.lt b e).2 (fun e' => HO1.out.di b e' e)))
  clear n2 XC2 HT2 OD2 OP2 OI2 ht
  have n3 := XC3.out.cell 3 rfl
  go_wp2_with fail
  refine (markPtrS_any _ _ (k + c.sets.length * 7 + 3 * c.ddt.length) base _ _ OP3.out h3 (by omega) (by omega)).mono ?_
  rintro e w4 ⟨rfl, -, ht⟩
  have XC4 := Lib.hid (XC3.out.kept (ht.block _ XC3.out.lt (fun e => HN.out _ (Or.inr (Or.inr (Or.inl e))) rfl)))
  have HT4 := Lib.hid (HT3.out.trans (ht.mono (fun b _ e => Or.inr (Or.inr (Or.inl e)))))
  have OI4 := Lib.hid (own_kept OI3.out (w' := w4) (fun b e => ht.block b (OI3.out.lt b e).2 (fun e' => HO1.out.pi b e' e)))
  clear n3 XC3 HT3 OP3 OI3 ht
  have n5 := XC4.out.cell 5 rfl
  go_wp2_with fail
  refine (markIntS_any _ _ (k + c.sets.length * 7 + 3 * c.ddt.length + 3 * c.parts.length) base _ _ OI4.out h4 (by omega) (by omega)).mono ?_
  rintro e w5 ⟨rfl, -, ht⟩
  have HT5 := Lib.hid (HT4.out.trans (ht.mono (fun b _ e => Or.inr (Or.inr (Or.inr e)))))
  clear n5 XC4 HT4 OI4 ht
  go_wp2
  go_ret
  exact ⟨rfl, HT5.out⟩
end Go.Proofs.YtojjenclcidnkaaGreatDoor

/-
  The laws' helpers on the core: same, and how much room it takes.
-/
set_option maxRecDepth 100000
namespace Go.Proofs.YtojjenclcidnkaaGreatDoor
open Go.ChangeShapes Go.WideShapes Go.ChangeAt Go.RowKit Go.Proofs.Palim

set_option maxHeartbeats 2000000 in
theorem eqCore_same (vs vd vp vi us ud up ui : Value) (c : CoreM) (w : World) (h : CoreR w vs vd vp vi c) (h' : CoreR w us ud up ui c) (hs : CoreShort c) :
    Calls Tryz.prog 12 #[cv c vs vd vp vi, cv c us ud up ui] w fun e w' => e = .returned (.bool true) ∧ Below w.heap.size w w' := by
  have hnot : ∀ (x : Bool) (w : World), (Op.unary .not (.bool x)).run Tryz.prog w = .ok (.bool (!x)) w := fun _ _ => rfl
  obtain ⟨b1, b2, hsz, hB⟩ := box2 w #[.int .i64 c.txg, vs, vd, vp, .bool c.dirty, vi, .int .i64 c.logn] #[.int .i64 c.txg, us, ud, up, .bool c.dirty, ui, .int .i64 c.logn] 45 45
  have X1 := Lib.hid b1
  have X2 := Lib.hid b2
  have B0 := Lib.hid hB
  have HR := Lib.hid h
  have HQ := Lib.hid h'
  have HS := Lib.hid hs
  obtain ⟨A0, k0, A1, k1, A2, k2, A3, k3, rfl, rfl, rfl, rfl⟩ := h.forms
  obtain ⟨D0, l0, D1, l1, D2, l2, D3, l3, rfl, rfl, rfl, rfl⟩ := h'.forms
  clear b1 b2 hB hsz h h' hs
  go_enter Tryz.func12, Tryz.ntmps12
  go_upto_region 1 with fail
  generalize (w.alloc (.cells #[.int .i64 c.txg, .slice A0 c.sets.length k0, .slice A1 c.ddt.length k1, .slice A2 c.parts.length k2, .bool c.dirty, .slice A3 c.safe.length k3, .int .i64 c.logn] 45)).alloc (.cells #[.int .i64 c.txg, .slice D0 c.sets.length l0, .slice D1 c.ddt.length l1, .slice D2 c.parts.length l2, .bool c.dirty, .slice D3 c.safe.length l3, .int .i64 c.logn] 45) = W at X1 X2 B0 ⊢
  have n0 := X1.out.cell 0 rfl
  have m0 := X2.out.cell 0 rfl
  have n1 := X1.out.cell 1 rfl
  have m1 := X2.out.cell 1 rfl
  go_wp2_with fail
  refine (eqCoreSetS_same _ _ c.sets _ (HR.out.s.below B0.out HR.out.ls) (HQ.out.s.below B0.out HQ.out.ls) (fun b e => Nat.lt_of_lt_of_le (HR.out.ls b e) B0.out.size) (fun b e => Nat.lt_of_lt_of_le (HQ.out.ls b e) B0.out.size) HS.out.s).mono ?_
  rintro e wc1 ⟨rfl, hb⟩
  have Y1 := Lib.hid (X1.out.below hb X1.out.lt)
  have Y2 := Lib.hid (X2.out.below hb X2.out.lt)
  have B1 := Lib.hid (B0.out.trans (hb.mono B0.out.size))
  clear hb X1 X2 B0 n0 m0 n1 m1
  have X1 := Y1
  have X2 := Y2
  have B0 := B1
  clear Y1 Y2 B1
  have n2 := X1.out.cell 2 rfl
  have m2 := X2.out.cell 2 rfl
  go_wp2_with fail
  refine (eqDdtEntryS_same _ _ c.ddt _ (HR.out.d.below B0.out HR.out.ld) (HQ.out.d.below B0.out HQ.out.ld) (fun b e => Nat.lt_of_lt_of_le (HR.out.ld b e) B0.out.size) (fun b e => Nat.lt_of_lt_of_le (HQ.out.ld b e) B0.out.size) HS.out.d).mono ?_
  rintro e wc2 ⟨rfl, hb⟩
  have Y1 := Lib.hid (X1.out.below hb X1.out.lt)
  have Y2 := Lib.hid (X2.out.below hb X2.out.lt)
  have B1 := Lib.hid (B0.out.trans (hb.mono B0.out.size))
  clear hb X1 X2 B0 n2 m2
  have X1 := Y1
  have X2 := Y2
  have B0 := B1
  clear Y1 Y2 B1
  have n3 := X1.out.cell 3 rfl
  have m3 := X2.out.cell 3 rfl
  go_wp2_with fail
  refine (eqPtrS_same _ _ c.parts _ (HR.out.p.below B0.out HR.out.lp) (HQ.out.p.below B0.out HQ.out.lp) (fun b e => Nat.lt_of_lt_of_le (HR.out.lp b e) B0.out.size) (fun b e => Nat.lt_of_lt_of_le (HQ.out.lp b e) B0.out.size) HS.out.p).mono ?_
  rintro e wc3 ⟨rfl, hb⟩
  have Y1 := Lib.hid (X1.out.below hb X1.out.lt)
  have Y2 := Lib.hid (X2.out.below hb X2.out.lt)
  have B1 := Lib.hid (B0.out.trans (hb.mono B0.out.size))
  clear hb X1 X2 B0 n3 m3
  have X1 := Y1
  have X2 := Y2
  have B0 := B1
  clear Y1 Y2 B1
  have n4 := X1.out.cell 4 rfl
  have m4 := X2.out.cell 4 rfl
  have n5 := X1.out.cell 5 rfl
  have m5 := X2.out.cell 5 rfl
  go_wp2_with fail
  refine (eqIntS_b _ _ c.safe _ (HR.out.i.below B0.out HR.out.li) (HQ.out.i.below B0.out HQ.out.li)  HS.out.i).mono ?_
  rintro e wc4 ⟨rfl, hb⟩
  have Y1 := Lib.hid (X1.out.below hb X1.out.lt)
  have Y2 := Lib.hid (X2.out.below hb X2.out.lt)
  have B1 := Lib.hid (B0.out.trans (hb.mono B0.out.size))
  clear hb X1 X2 B0 n4 m4 n5 m5
  have X1 := Y1
  have X2 := Y2
  have B0 := B1
  clear Y1 Y2 B1
  have n6 := X1.out.cell 6 rfl
  have m6 := X2.out.cell 6 rfl
  go_wp2_with fail
  go_ret
  exact ⟨rfl, B0.out⟩

theorem cszs_le {ls : List CSetM} {x : CSetM} (h : x ∈ ls) : csz x ≤ cszs ls := by
  induction ls with
  | nil => cases h
  | cons a ss ih =>
    rcases List.mem_cons.1 h with rfl | h
    · simp [cszs]
    · have := ih h; simp [cszs] at this ⊢; omega

set_option maxHeartbeats 2000000 in
theorem szCore_any (vs vd vp vi : Value) (c : CoreM) (left : Int) (w : World) (h : CoreR w vs vd vp vi c) (hz : ∀ x ∈ c.sets, x.name.size ≤ maxLen ∧ x.frm.size ≤ maxLen) (h0 : 0 ≤ left) (h1 : left ≤ 1048576) :
    Calls Tryz.prog 16 #[cv c vs vd vp vi, .int .i64 left] w fun e w' => (∃ r : Int, e = .returned (.int .i64 r) ∧ (r = -1 ∨ 0 ≤ r ∧ r ≤ left ∧ CoreShort c)) ∧ Below w.heap.size w w' := by
  obtain ⟨b1, hsz, hB⟩ := box1 w #[.int .i64 c.txg, vs, vd, vp, .bool c.dirty, vi, .int .i64 c.logn] 32
  have X1 := Lib.hid b1
  have B0 := Lib.hid hB
  have HR := Lib.hid h
  have HZ := Lib.hid hz
  have H0 := Lib.hid h0
  have H1 := Lib.hid h1
  obtain ⟨A0, k0, A1, k1, A2, k2, A3, k3, rfl, rfl, rfl, rfl⟩ := h.forms
  clear b1 hB hsz h hz h0 h1
  go_enter Tryz.func16, Tryz.ntmps16
  go_upto_region 1 with fail
  generalize w.alloc (.cells #[.int .i64 c.txg, .slice A0 c.sets.length k0, .slice A1 c.ddt.length k1, .slice A2 c.parts.length k2, .bool c.dirty, .slice A3 c.safe.length k3, .int .i64 c.logn] 32) = W at X1 B0 ⊢
  have n1 := X1.out.cell 1 rfl
  go_wp2_with fail
  refine (szCoreSetS_any _ c.sets left _ (HR.out.s.below B0.out HR.out.ls) (fun b e => Nat.lt_of_lt_of_le (HR.out.ls b e) B0.out.size) HZ.out H0.out H1.out).mono ?_
  rintro e wc1 ⟨⟨r, rfl, hr⟩, hb⟩
  have Y1 := Lib.hid (X1.out.below hb X1.out.lt)
  have B1 := Lib.hid (B0.out.trans (hb.mono B0.out.size))
  clear hb X1 B0 n1
  have X1 := Y1
  have B0 := B1
  clear Y1 B1
  rcases hr with rfl | ⟨hr0, hr1⟩
  · go_wp2
    go_ret
    exact ⟨⟨-1, rfl, Or.inl rfl⟩, B0.out⟩
  have R0 := Lib.hid hr0
  have R1 := Lib.hid hr1
  have hd : decide (r < 0) = false := decide_eq_false (by omega)
  clear hr0 hr1
  have n2 := X1.out.cell 2 rfl
  go_wp2_with fail
  refine (szDdtEntryS_any _ _ _ r _ (HR.out.d.below B0.out HR.out.ld) (by have := R0.out; have := R1.out; have := H1.out; omega) (by have := R0.out; have := R1.out; have := H1.out; omega)).mono ?_
  rintro e wc2 ⟨rfl, hb⟩
  have Y1 := Lib.hid (X1.out.below hb X1.out.lt)
  have B1 := Lib.hid (B0.out.trans (hb.mono B0.out.size))
  clear hb X1 B0 n2 hd
  have X1 := Y1
  have B0 := B1
  clear Y1 B1
  by_cases hl : r < (c.ddt.length : Nat)
  · rw [if_pos hl]
    clear hl
    go_wp2
    go_ret
    exact ⟨⟨-1, rfl, Or.inl rfl⟩, B0.out⟩
  rw [if_neg hl]
  obtain ⟨r2, E2⟩ : ∃ r2 : Int, Hid (r2 = r - (c.ddt.length : Nat)) := ⟨_, Lib.hid rfl⟩
  rw [← E2.out]
  have hd : decide (r2 < 0) = false := decide_eq_false (by have := E2.out; omega)
  have L2 := Lib.hid hl
  clear hl
  have n3 := X1.out.cell 3 rfl
  go_wp2_with fail
  refine (szPtrS_any _ _ _ r2 _ (HR.out.p.below B0.out HR.out.lp) (by have := R0.out; have := R1.out; have := H1.out; have := E2.out; have := L2.out; omega) (by have := R0.out; have := R1.out; have := H1.out; have := E2.out; have := L2.out; omega)).mono ?_
  rintro e wc3 ⟨rfl, hb⟩
  have Y1 := Lib.hid (X1.out.below hb X1.out.lt)
  have B1 := Lib.hid (B0.out.trans (hb.mono B0.out.size))
  clear hb X1 B0 n3 hd
  have X1 := Y1
  have B0 := B1
  clear Y1 B1
  by_cases hl : r2 < (c.parts.length : Nat)
  · rw [if_pos hl]
    clear hl
    go_wp2
    go_ret
    exact ⟨⟨-1, rfl, Or.inl rfl⟩, B0.out⟩
  rw [if_neg hl]
  obtain ⟨r3, E3⟩ : ∃ r3 : Int, Hid (r3 = r2 - (c.parts.length : Nat)) := ⟨_, Lib.hid rfl⟩
  rw [← E3.out]
  have hd : decide (r3 < 0) = false := decide_eq_false (by have := E3.out; omega)
  have L3 := Lib.hid hl
  clear hl
  have n5 := X1.out.cell 5 rfl
  go_wp2_with fail
  refine (szIntS_any _ _ _ r3 _ (HR.out.i.below B0.out HR.out.li) (by have := R0.out; have := R1.out; have := H1.out; have := E2.out; have := L2.out; have := E3.out; have := L3.out; omega) (by have := R0.out; have := R1.out; have := H1.out; have := E2.out; have := L2.out; have := E3.out; have := L3.out; omega)).mono ?_
  rintro e wc4 ⟨rfl, hb⟩
  have Y1 := Lib.hid (X1.out.below hb X1.out.lt)
  have B1 := Lib.hid (B0.out.trans (hb.mono B0.out.size))
  clear hb X1 B0 n5 hd
  have X1 := Y1
  have B0 := B1
  clear Y1 B1
  by_cases hl : r3 < (c.safe.length : Nat)
  · rw [if_pos hl]
    clear hl
    go_wp2
    go_ret
    exact ⟨⟨-1, rfl, Or.inl rfl⟩, B0.out⟩
  rw [if_neg hl]
  obtain ⟨r4, E4⟩ : ∃ r4 : Int, Hid (r4 = r3 - (c.safe.length : Nat)) := ⟨_, Lib.hid rfl⟩
  rw [← E4.out]
  have hd : decide (r4 < 0) = false := decide_eq_false (by have := E4.out; omega)
  have L4 := Lib.hid hl
  clear hl
  go_wp2
  go_ret
  have := R0.out
  have := R1.out
  have := H1.out
  have := E2.out
  have := E3.out
  have := E4.out
  have := L2.out
  have := L3.out
  have := L4.out
  refine ⟨⟨r4, rfl, Or.inr ⟨by omega, by omega, by omega, by omega, by omega, by omega, fun x hx => ?_⟩⟩, B0.out⟩
  have h1 := cszs_le hx
  unfold csz at h1
  omega
end Go.Proofs.YtojjenclcidnkaaGreatDoor

/-
  Entries of the table that came in as an argument, opened.
-/
set_option maxRecDepth 100000
namespace Go.Proofs.YtojjenclcidnkaaGreatDoor
open Go.ChangeShapes Go.WideShapes Go.ChangeAt Go.RowKit Go.Proofs.Palim Go.Deep

section
variable {H : Type} {enc : TypeId × Value → H} {W : World}
theorem cellsEnt : Tryz.prog.cellsOf 157 = 3 := by kernel_rfl
instance : Inhabited EntM := ⟨⟨0, 0, 0⟩⟩
/-- Its three numbers are numbers of the machine. -/
def EntFits (e : EntM) : Prop := (-9223372036854775808 ≤ e.sum ∧ e.sum ≤ 9223372036854775807) ∧ (-9223372036854775808 ≤ e.at_ ∧ e.at_ ≤ 9223372036854775807) ∧ -9223372036854775808 ≤ e.count ∧ e.count ≤ 9223372036854775807
/-- One entry that came in. -/
theorem ent_of {fuel : Nat} {cs : List Value} {x : DataW H × List MemPlace} (h : DataW.trod enc Tryz.prog W 0 (fun _ => true) true fuel 157 cs = some x) :
    ∃ l : EntM, cs = ec l ∧ EntFits l := by
  obtain ⟨y0, y1, y2, n, _, hl, t0, t1, t2⟩ := trod_struct3 Tryz.underlying157 h
  rw [cellsEnt] at hl
  match cs, hl with
  | [c0, c1, c2], _ =>
    simp only [cells3, List.drop, List.take] at t0 t1 t2
    obtain ⟨a, ha, _, wa⟩ := DataW.trod_int Tryz.underlying3 t0
    obtain ⟨b, hb, _, wb⟩ := DataW.trod_int Tryz.underlying3 t1
    obtain ⟨c, hc, _, wc⟩ := DataW.trod_int Tryz.underlying3 t2
    simp at ha hb hc
    subst ha hb hc
    exact ⟨⟨a, b, c⟩, rfl, bounds_i64 wa, bounds_i64 wb, bounds_i64 wc⟩

/-- Entries that came in. -/
theorem ents_of {base fuel : Nat} {v : Value} {x : DataW H × List MemPlace} (ho : Cell.okWide Tryz.prog W .any base 28 v) (h : DataW.trod enc Tryz.prog W 0 (fun _ => true) true fuel 28 [v] = some x) :
    ∃ ls : List EntM, Sl W 3 v ls.length (ecs ls) ∧ ∀ l ∈ ls, EntFits l := by
  rcases open_slice Tryz.underlying28 h with ⟨hcs, _⟩ | ⟨a, len, cap, m, n, D, Pl, hcs, _, hl, hm, hmm, _, hx⟩
  · obtain rfl : v = .slice none 0 0 := by simpa using hcs
    exact ⟨[], ⟨rfl, none, 0, rfl, Nat.le_refl _, Nat.zero_le _, Or.inl rfl⟩, by simp⟩
  · obtain rfl : v = .slice (some a) len cap := by simpa using hcs
    simp only [if_true] at hmm
    subst hmm
    have hsp : a.spot = none := by
      simp only [Cell.okWide, Tryz.underlying28, Cell.ok] at ho
      exact ho.2.2.2.1
    obtain ⟨b, off, sp⟩ := a
    simp at hsp
    subst hsp
    rw [cellsEnt] at hx
    obtain ⟨L, hL⟩ := choose_lt (α := EntM) (p := fun i l => (W.cell? ⟨b, off + i * 3, none⟩ = some (.int .i64 l.sum) ∧ W.cell? ⟨b, off + i * 3 + 1, none⟩ = some (.int .i64 l.at_) ∧ W.cell? ⟨b, off + i * 3 + 2, none⟩ = some (.int .i64 l.count)) ∧ EntFits l) (n := len) (fun i hi => by
      obtain ⟨cs', h1, h2⟩ := hx i (by omega)
      obtain ⟨l, rfl, hr⟩ := ent_of h2
      rw [add_none] at h1
      refine ⟨l, ?_, hr⟩
      obtain ⟨_, _, hc⟩ := World.cells?_some h1
      have h0 := hc 0 (by omega)
      have h1 := hc 1 (by omega)
      have h2 := hc 2 (by omega)
      rw [add_none] at h0 h1 h2
      exact ⟨h0, h1, h2⟩)
    refine ⟨(List.range len).map L, ⟨ecs_length _, some ⟨b, off, none⟩, m, by simp, by simpa using hl, hm, Or.inr ⟨b, off, rfl, fun j u hu => ?_⟩⟩, ?_⟩
    · have hj : j < len * 3 := by
        have h := (List.getElem?_eq_some_iff.1 hu).1
        rw [ecs_length] at h
        simpa using h
      have hk : j / 3 < ((List.range len).map L).length := by simp; omega
      have hat := ecs_at ((List.range len).map L) (j / 3) hk
      have hcl := (hL (j / 3) (by omega)).1
      simp only [List.getElem_map, List.getElem_range] at hat
      have hj3 : j = j / 3 * 3 ∨ j = j / 3 * 3 + 1 ∨ j = j / 3 * 3 + 2 := by omega
      generalize j / 3 = k at hat hcl hj3
      rcases hj3 with rfl | rfl | rfl
      · rw [hat.1] at hu; rw [hcl.1]; exact hu
      · rw [hat.2.1] at hu; rw [← Nat.add_assoc, hcl.2.1]; exact hu
      · rw [hat.2.2] at hu; rw [← Nat.add_assoc, hcl.2.2]; exact hu
    · intro l hl
      obtain ⟨i, hi, rfl⟩ := List.mem_map.1 hl
      exact (hL i (List.mem_range.1 hi)).2

/-- A list of entries as a whole argument. -/
theorem ents_arg {base : Nat} {v : Value} {d : DataW H} {p : List MemPlace} (hv : Value.okWide Tryz.prog W .any base 28 v) (h : DataW.Trod enc Tryz.prog W 0 (fun _ => true) true 28 v d p) :
    ∃ ls : List EntM, Sl W 3 v ls.length (ecs ls) ∧ Low W.heap.size v ∧ ∀ l ∈ ls, EntFits l := by
  obtain ⟨A, n, c, rfl⟩ := okWide_slice Tryz.underlying28 hv
  obtain ⟨fuel, hf⟩ := h
  have ho : Cell.okWide Tryz.prog W .any base 28 (.slice A n c) := by simpa only [Value.okWide, Tryz.underlying28] using hv
  obtain ⟨ls, hz, hr⟩ := ents_of (enc := enc) ho (by simpa [Value.cells] using hf)
  exact ⟨ls, hz, low_of_ok Tryz.underlying28 ho, hr⟩
end
end Go.Proofs.YtojjenclcidnkaaGreatDoor

/-
  A pointer that came in as an argument, opened.
-/
set_option maxRecDepth 100000
namespace Go.Proofs.YtojjenclcidnkaaGreatDoor
open Go.ChangeShapes Go.WideShapes Go.ChangeAt Go.RowKit Go.Proofs.Palim Go.Deep

section
variable {H : Type} {enc : TypeId × Value → H} {W : World}
theorem cellsPtr : Tryz.prog.cellsOf 142 = 3 := by kernel_rfl
/-- A pointer that came in. -/
theorem ptr_of {base : Nat} {v : Value} {x : DataW H} {p : List MemPlace} (ho : Value.okWide Tryz.prog W .any base 142 v) (h : DataW.Trod enc Tryz.prog W 0 (fun _ => true) true 142 v x p) :
    ∃ q : PtrM, v = pv q ∧ PtrFits q := by
  simp only [Value.okWide, Tryz.underlying142] at ho
  obtain ⟨cs, rfl, hsz, hrow⟩ := ho
  rw [cellsPtr] at hsz
  obtain ⟨v0, v1, vl, rfl⟩ : ∃ v0 v1 vl, cs = #[v0, v1, vl] := by
    match cs, hsz with
    | ⟨[v0, v1, vl]⟩, _ => exact ⟨v0, v1, vl, rfl⟩
  obtain ⟨fuel, hf⟩ := h
  obtain ⟨y0, y1, y2, n, _, hl, t0, t1, t2⟩ := trod_struct3 Tryz.underlying142 hf
  simp only [cells3, Value.cells, List.drop, List.take] at t0 t1 t2
  obtain ⟨a, ha, _, wa⟩ := DataW.trod_int Tryz.underlying3 t0
  obtain ⟨b, hb, _, wb⟩ := DataW.trod_int Tryz.underlying3 t1
  obtain ⟨c, hc, _, wc⟩ := DataW.trod_int Tryz.underlying3 t2
  simp at ha hb hc
  subst ha hb hc
  exact ⟨⟨a, b, c⟩, rfl, bounds_i64 wa, bounds_i64 wb, bounds_i64 wc⟩
end
end Go.Proofs.YtojjenclcidnkaaGreatDoor

/-
  Eight pointers that came in as an argument, opened.
-/
set_option maxRecDepth 100000
namespace Go.Proofs.YtojjenclcidnkaaGreatDoor
open Go.ChangeShapes Go.WideShapes Go.ChangeAt Go.RowKit Go.Proofs.Palim Go.Deep

section
variable {H : Type} {enc : TypeId × Value → H} {W : World}
theorem cellsMapL : Tryz.prog.cellsOf 143 = 24 := by kernel_rfl
theorem cellsPtrL : Tryz.prog.cellsOf 142 = 3 := by kernel_rfl
theorem ptrc_of {fuel : Nat} {cs : List Value} {x : DataW H × List MemPlace} (h : DataW.trod enc Tryz.prog W 0 (fun _ => true) true fuel 142 cs = some x) : ∃ q : PtrM, cs = pc q ∧ PtrFits q := by
  obtain ⟨y0, y1, y2, n, _, hl, t0, t1, t2⟩ := trod_struct3 Tryz.underlying142 h
  rw [cellsPtrL] at hl
  match cs, hl with
  | [c0, c1, c2], _ =>
    simp only [cells3, List.drop, List.take] at t0 t1 t2
    obtain ⟨a, ha, _, wa⟩ := DataW.trod_int Tryz.underlying3 t0
    obtain ⟨b, hb, _, wb⟩ := DataW.trod_int Tryz.underlying3 t1
    obtain ⟨c, hc, _, wc⟩ := DataW.trod_int Tryz.underlying3 t2
    simp at ha hb hc
    subst ha hb hc
    exact ⟨⟨a, b, c⟩, rfl, bounds_i64 wa, bounds_i64 wb, bounds_i64 wc⟩
theorem cut3 (cs : List Value) : ∀ (n : Nat), cs.length = n * 3 → (∀ i, i < n → ∃ q : PtrM, (cs.drop (i * 3)).take 3 = pc q ∧ PtrFits q) → ∃ ps : List PtrM, ps.length = n ∧ cs = pcs ps ∧ ∀ p ∈ ps, PtrFits p := by
  intro n
  induction n generalizing cs with
  | zero => intro h _; exact ⟨[], rfl, List.length_eq_zero_iff.1 (by omega), by simp⟩
  | succ n ih =>
    intro h hq
    obtain ⟨q, hq0, hf⟩ := hq 0 (by omega)
    obtain ⟨ps, h1, h2, h3⟩ := ih (cs.drop 3) (by rw [List.length_drop]; omega) (fun i hi => by
      have := hq (i + 1) (by omega)
      rw [List.drop_drop, show 3 + i * 3 = (i + 1) * 3 by omega]
      exact this)
    refine ⟨q :: ps, by simp [h1], ?_, ?_⟩
    · rw [show pcs (q :: ps) = pc q ++ pcs ps by simp [pcs], ← h2, ← hq0]
      simp
    · intro p hp
      rcases List.mem_cons.1 hp with rfl | hp
      · exact hf
      · exact h3 p hp
theorem mapc_of {fuel : Nat} {cs : List Value} {x : DataW H × List MemPlace} (h : DataW.trod enc Tryz.prog W 0 (fun _ => true) true fuel 143 cs = some x) : ∃ ps : List PtrM, ps.length = 8 ∧ cs = pcs ps ∧ ∀ p ∈ ps, PtrFits p := by
  obtain ⟨xs, m, _, _, hl, hlen, hel⟩ := DataW.trod_array Tryz.underlying143 h
  rw [cellsMapL] at hl
  refine cut3 cs 8 (by omega) (fun i hi => ?_)
  have k0 := hel i hi
  rw [cellsPtrL, List.getElem?_eq_getElem (by omega)] at k0
  exact ptrc_of k0
theorem map_of {base : Nat} {v : Value} {x : DataW H} {p : List MemPlace} (ho : Value.okWide Tryz.prog W .any base 143 v) (h : DataW.Trod enc Tryz.prog W 0 (fun _ => true) true 143 v x p) :
    ∃ ps : List PtrM, ps.length = 8 ∧ v = .agg (pcs ps).toArray ∧ ∀ p ∈ ps, PtrFits p := by
  simp only [Value.okWide, Tryz.underlying143] at ho
  obtain ⟨cs, rfl, hsz, hrow⟩ := ho
  obtain ⟨fuel, hf⟩ := h
  obtain ⟨ps, h1, h2, h3⟩ := mapc_of (by simpa [Value.cells] using hf)
  refine ⟨ps, h1, ?_, h3⟩
  rw [← h2]
end
end Go.Proofs.YtojjenclcidnkaaGreatDoor

/-
  A core that came in as an argument, opened.
-/
set_option maxRecDepth 100000
namespace Go.Proofs.YtojjenclcidnkaaGreatDoor
open Go.ChangeShapes Go.WideShapes Go.ChangeAt Go.RowKit Go.Proofs.Palim Go.Deep

section
variable {H : Type} {enc : TypeId × Value → H} {W : World}
theorem trod_struct6 {P : Program} {w : World} {base : Nat} {spare : Nat → Bool} {held : Bool} {t : TypeId} {f0 f1 f2 f3 f4 f5 : Field} {fuel : Nat} {cs : List Value} {x : DataW H × List MemPlace} (ht : P.underlying t = some (.struct #[f0, f1, f2, f3, f4, f5])) (h : DataW.trod enc P w base spare held fuel t cs = some x) :
    ∃ y0 y1 y2 y3 y4 y5 n, cs.length = P.cellsOf t ∧ DataW.trod enc P w base spare held n f0.type ((cs.drop f0.offset).take (P.cellsOf f0.type)) = some y0 ∧ DataW.trod enc P w base spare held n f1.type ((cs.drop f1.offset).take (P.cellsOf f1.type)) = some y1 ∧ DataW.trod enc P w base spare held n f2.type ((cs.drop f2.offset).take (P.cellsOf f2.type)) = some y2 ∧ DataW.trod enc P w base spare held n f3.type ((cs.drop f3.offset).take (P.cellsOf f3.type)) = some y3 ∧ DataW.trod enc P w base spare held n f4.type ((cs.drop f4.offset).take (P.cellsOf f4.type)) = some y4 ∧ DataW.trod enc P w base spare held n f5.type ((cs.drop f5.offset).take (P.cellsOf f5.type)) = some y5 := by
  obtain ⟨xs, n, _, rfl, hl, hlen, hf⟩ := DataW.trod_struct ht h
  match xs, hlen with
  | [y0, y1, y2, y3, y4, y5], _ => exact ⟨y0, y1, y2, y3, y4, y5, n, hl, by simpa using hf 0 f0 rfl, by simpa using hf 1 f1 rfl, by simpa using hf 2 f2 rfl, by simpa using hf 3 f3 rfl, by simpa using hf 4 f4 rfl, by simpa using hf 5 f5 rfl⟩
theorem trod_struct7 {P : Program} {w : World} {base : Nat} {spare : Nat → Bool} {held : Bool} {t : TypeId} {f0 f1 f2 f3 f4 f5 f6 : Field} {fuel : Nat} {cs : List Value} {x : DataW H × List MemPlace} (ht : P.underlying t = some (.struct #[f0, f1, f2, f3, f4, f5, f6])) (h : DataW.trod enc P w base spare held fuel t cs = some x) :
    ∃ y0 y1 y2 y3 y4 y5 y6 n, cs.length = P.cellsOf t ∧ DataW.trod enc P w base spare held n f0.type ((cs.drop f0.offset).take (P.cellsOf f0.type)) = some y0 ∧ DataW.trod enc P w base spare held n f1.type ((cs.drop f1.offset).take (P.cellsOf f1.type)) = some y1 ∧ DataW.trod enc P w base spare held n f2.type ((cs.drop f2.offset).take (P.cellsOf f2.type)) = some y2 ∧ DataW.trod enc P w base spare held n f3.type ((cs.drop f3.offset).take (P.cellsOf f3.type)) = some y3 ∧ DataW.trod enc P w base spare held n f4.type ((cs.drop f4.offset).take (P.cellsOf f4.type)) = some y4 ∧ DataW.trod enc P w base spare held n f5.type ((cs.drop f5.offset).take (P.cellsOf f5.type)) = some y5 ∧ DataW.trod enc P w base spare held n f6.type ((cs.drop f6.offset).take (P.cellsOf f6.type)) = some y6 := by
  obtain ⟨xs, n, _, rfl, hl, hlen, hf⟩ := DataW.trod_struct ht h
  match xs, hlen with
  | [y0, y1, y2, y3, y4, y5, y6], _ => exact ⟨y0, y1, y2, y3, y4, y5, y6, n, hl, by simpa using hf 0 f0 rfl, by simpa using hf 1 f1 rfl, by simpa using hf 2 f2 rfl, by simpa using hf 3 f3 rfl, by simpa using hf 4 f4 rfl, by simpa using hf 5 f5 rfl, by simpa using hf 6 f6 rfl⟩
theorem kcellsS : Tryz.prog.cellsOf 9 = 1 := by kernel_rfl
theorem kcellsI : Tryz.prog.cellsOf 3 = 1 := by kernel_rfl
theorem kcellsB : Tryz.prog.cellsOf 4 = 1 := by kernel_rfl
theorem kcellsK : Tryz.prog.cellsOf 145 = 31 := by kernel_rfl
theorem kcellsC : Tryz.prog.cellsOf 32 = 7 := by kernel_rfl
theorem kcellsKs : Tryz.prog.cellsOf 27 = 1 := by kernel_rfl
theorem kcellsEs : Tryz.prog.cellsOf 28 = 1 := by kernel_rfl
theorem kcellsPs : Tryz.prog.cellsOf 29 = 1 := by kernel_rfl
theorem kcellsIs : Tryz.prog.cellsOf 30 = 1 := by kernel_rfl
theorem add_noneK {b off i : Nat} : (⟨b, off, none⟩ : Addr).add i = ⟨b, off + i, none⟩ := by unfold Addr.add; simp

/-- What a set that came in keeps to. -/
structure CSetFits (x : CSetM) : Prop where
  n : x.name.size ≤ maxLen
  f : x.frm.size ≤ maxLen
  k : -9223372036854775808 ≤ x.kind ∧ x.kind ≤ 9223372036854775807
  m : ∀ p ∈ x.map, PtrFits p
  h : PtrFits x.home
theorem cut_at (cs : List Value) (k n : Nat) : (cs.drop k).take n ++ cs.drop (k + n) = cs.drop k := by
  rw [← List.drop_drop]; exact List.take_append_drop n (cs.drop k)
instance : Inhabited CSetM := ⟨⟨⟨#[]⟩, 0, ⟨#[]⟩, List.replicate 8 ⟨0, 0, 0⟩, ⟨0, 0, 0⟩, false, by simp⟩⟩
instance : Inhabited PtrM := ⟨⟨0, 0, 0⟩⟩
theorem cset_of {fuel : Nat} {cs : List Value} {x : DataW H × List MemPlace} (h : DataW.trod enc Tryz.prog W 0 (fun _ => true) true fuel 145 cs = some x) :
    ∃ l : CSetM, cs = cc l ∧ CSetFits l := by
  obtain ⟨y0, y1, y2, y3, y4, y5, n, hl, t0, t1, t2, t3, t4, t5⟩ := trod_struct6 Tryz.underlying145 h
  rw [kcellsK] at hl
  simp only [kcellsS, kcellsI, kcellsB, cellsMapL, cellsPtrL] at t0 t1 t2 t3 t4 t5
  obtain ⟨a, ha, _, wa⟩ := DataW.trod_string Tryz.underlying9 t0
  obtain ⟨b, hb, _, wb⟩ := DataW.trod_int Tryz.underlying3 t1
  obtain ⟨s, hs, _, hz⟩ := DataW.trod_string Tryz.underlying9 t2
  obtain ⟨ps, h8, hm, fm⟩ := mapc_of t3
  obtain ⟨q, hq, fq⟩ := ptrc_of t4
  obtain ⟨d, hd, _⟩ := DataW.trod_bool Tryz.underlying4 t5
  refine ⟨⟨a, b, s, ps, q, d, h8⟩, ?_, ⟨wa, hz, bounds_i64 wb, fm, fq⟩⟩
  have e0 := cut_at cs 0 1
  have e1 := cut_at cs 1 1
  have e2 := cut_at cs 2 1
  have e3 := cut_at cs 3 24
  have e4 := cut_at cs 27 3
  have e5 := cut_at cs 30 1
  rw [ha] at e0
  rw [hb] at e1
  rw [hs] at e2
  rw [hm] at e3
  rw [hq] at e4
  rw [hd] at e5
  have e6 : cs.drop 31 = [] := List.drop_eq_nil_of_le (by omega)
  simp only [Nat.reduceAdd] at e0 e1 e2 e3 e4 e5
  rw [e6] at e5
  rw [← e5] at e4
  rw [← e4] at e3
  rw [← e3] at e2
  rw [← e2] at e1
  rw [← e1] at e0
  have e7 : cs.drop 0 = cs := rfl
  rw [e7] at e0
  rw [← e0]
  simp [cc, ch]

theorem csets_of {base fuel : Nat} {v : Value} {x : DataW H × List MemPlace} (ho : Cell.okWide Tryz.prog W .any base 27 v) (h : DataW.trod enc Tryz.prog W 0 (fun _ => true) true fuel 27 [v] = some x) :
    ∃ ls : List CSetM, Sl W 31 v ls.length (ccs ls) ∧ ∀ l ∈ ls, CSetFits l := by
  rcases open_slice Tryz.underlying27 h with ⟨hcs, _⟩ | ⟨a, len, cap, m, n, D, Pl, hcs, _, hl, hm, hmm, _, hx⟩
  · obtain rfl : v = .slice none 0 0 := by simpa using hcs
    exact ⟨[], ⟨rfl, none, 0, rfl, Nat.le_refl _, Nat.zero_le _, Or.inl rfl⟩, by simp⟩
  · obtain rfl : v = .slice (some a) len cap := by simpa using hcs
    simp only [if_true] at hmm
    subst hmm
    have hsp : a.spot = none := by
      simp only [Cell.okWide, Tryz.underlying27, Cell.ok] at ho
      exact ho.2.2.2.1
    obtain ⟨b, off, sp⟩ := a
    simp at hsp
    subst hsp
    rw [kcellsK] at hx
    obtain ⟨L, hL⟩ := choose_lt (α := CSetM) (p := fun i l => (∀ j u, (cc l)[j]? = some u → W.cell? ⟨b, off + i * 31 + j, none⟩ = some u) ∧ CSetFits l) (n := len) (fun i hi => by
      obtain ⟨cs', h1, h2⟩ := hx i (by omega)
      obtain ⟨l, rfl, hr⟩ := cset_of h2
      rw [add_noneK] at h1
      refine ⟨l, ?_, hr⟩
      obtain ⟨_, _, hc⟩ := World.cells?_some h1
      intro j u hu
      have hj : j < (cc l).length := (List.getElem?_eq_some_iff.1 hu).1
      have h0 := hc j (by have e := cc_length l; rw [e] at hj; exact hj)
      rw [add_noneK] at h0
      rw [h0, ← hu])
    refine ⟨(List.range len).map L, ⟨ccs_length _, some ⟨b, off, none⟩, m, by simp, by simpa using hl, hm, Or.inr ⟨b, off, rfl, fun j u hu => ?_⟩⟩, ?_⟩
    · have hj : j < len * 31 := by
        have h := (List.getElem?_eq_some_iff.1 hu).1
        rw [ccs_length] at h
        simpa using h
      have hk : j / 31 < ((List.range len).map L).length := by simp; omega
      have hat := ccs_at ((List.range len).map L) (j / 31) hk (j % 31) (by omega)
      have hcl := (hL (j / 31) (by omega)).1 (j % 31)
      simp only [List.getElem_map, List.getElem_range] at hat
      rw [show j / 31 * 31 + j % 31 = j by omega, hu] at hat
      have := hcl u hat.symm
      rwa [Nat.add_assoc, show j / 31 * 31 + j % 31 = j by omega] at this
    · intro l hl
      obtain ⟨i, hi, rfl⟩ := List.mem_map.1 hl
      exact (hL i (List.mem_range.1 hi)).2

theorem pc_length (p : PtrM) : (pc p).length = 3 := rfl
theorem pcs_atK (ls : List PtrM) : ∀ (k : Nat) (h : k < ls.length) (j : Nat), j < 3 → (pcs ls)[k * 3 + j]? = (pc ls[k])[j]? := by
  induction ls with
  | nil => intro k h; simp at h
  | cons x ls ih =>
    intro k h j hj
    have e : pcs (x :: ls) = pc x ++ pcs ls := by simp [pcs]
    match k, h with
    | 0, _ =>
      rw [e, List.getElem?_append_left (by rw [pc_length]; omega)]
      simp
    | k + 1, h =>
      rw [e, List.getElem?_append_right (by rw [pc_length]; omega), pc_length, show (k + 1) * 3 + j - 3 = k * 3 + j by omega, ih k (by simpa using h) j hj]
      simp
theorem parts_of {base fuel : Nat} {v : Value} {x : DataW H × List MemPlace} (ho : Cell.okWide Tryz.prog W .any base 29 v) (h : DataW.trod enc Tryz.prog W 0 (fun _ => true) true fuel 29 [v] = some x) :
    ∃ ls : List PtrM, Sl W 3 v ls.length (pcs ls) ∧ ∀ l ∈ ls, PtrFits l := by
  rcases open_slice Tryz.underlying29 h with ⟨hcs, _⟩ | ⟨a, len, cap, m, n, D, Pl, hcs, _, hl, hm, hmm, _, hx⟩
  · obtain rfl : v = .slice none 0 0 := by simpa using hcs
    exact ⟨[], ⟨rfl, none, 0, rfl, Nat.le_refl _, Nat.zero_le _, Or.inl rfl⟩, by simp⟩
  · obtain rfl : v = .slice (some a) len cap := by simpa using hcs
    simp only [if_true] at hmm
    subst hmm
    have hsp : a.spot = none := by
      simp only [Cell.okWide, Tryz.underlying29, Cell.ok] at ho
      exact ho.2.2.2.1
    obtain ⟨b, off, sp⟩ := a
    simp at hsp
    subst hsp
    rw [cellsPtrL] at hx
    obtain ⟨L, hL⟩ := choose_lt (α := PtrM) (p := fun i l => (∀ j u, (pc l)[j]? = some u → W.cell? ⟨b, off + i * 3 + j, none⟩ = some u) ∧ PtrFits l) (n := len) (fun i hi => by
      obtain ⟨cs', h1, h2⟩ := hx i (by omega)
      obtain ⟨l, rfl, hr⟩ := ptrc_of h2
      rw [add_noneK] at h1
      refine ⟨l, ?_, hr⟩
      obtain ⟨_, _, hc⟩ := World.cells?_some h1
      intro j u hu
      have hj : j < (pc l).length := (List.getElem?_eq_some_iff.1 hu).1
      have h0 := hc j (by have e := pc_length l; rw [e] at hj; exact hj)
      rw [add_noneK] at h0
      rw [h0, ← hu])
    refine ⟨(List.range len).map L, ⟨pcs_length _, some ⟨b, off, none⟩, m, by simp, by simpa using hl, hm, Or.inr ⟨b, off, rfl, fun j u hu => ?_⟩⟩, ?_⟩
    · have hj : j < len * 3 := by
        have h := (List.getElem?_eq_some_iff.1 hu).1
        rw [pcs_length] at h
        simpa using h
      have hk : j / 3 < ((List.range len).map L).length := by simp; omega
      have hat := pcs_atK ((List.range len).map L) (j / 3) hk (j % 3) (by omega)
      have hcl := (hL (j / 3) (by omega)).1 (j % 3)
      simp only [List.getElem_map, List.getElem_range] at hat
      rw [show j / 3 * 3 + j % 3 = j by omega, hu] at hat
      have := hcl u hat.symm
      rwa [Nat.add_assoc, show j / 3 * 3 + j % 3 = j by omega] at this
    · intro l hl
      obtain ⟨i, hi, rfl⟩ := List.mem_map.1 hl
      exact (hL i (List.mem_range.1 hi)).2

theorem ktypesC : Tryz.prog.cellTypes Tryz.prog.depth 32 = some [3, 27, 28, 29, 4, 30, 3] := by kernel_rfl
/-- What a core that came in keeps to. -/
structure CoreFits (c : CoreM) : Prop where
  t : -9223372036854775808 ≤ c.txg ∧ c.txg ≤ 9223372036854775807
  l : -9223372036854775808 ≤ c.logn ∧ c.logn ≤ 9223372036854775807
  s : ∀ x ∈ c.sets, CSetFits x
  d : ∀ x ∈ c.ddt, EntFits x
  p : ∀ x ∈ c.parts, PtrFits x
/-- A core that came in. -/
theorem core_of {base : Nat} {v : Value} {x : DataW H} {p : List MemPlace} (ho : Value.okWide Tryz.prog W .any base 32 v) (h : DataW.Trod enc Tryz.prog W 0 (fun _ => true) true 32 v x p) :
    ∃ vs vd vp vi c, v = cv c vs vd vp vi ∧ CoreR W vs vd vp vi c ∧ CoreFits c := by
  simp only [Value.okWide, Tryz.underlying32] at ho
  obtain ⟨cs, rfl, hsz, hrow⟩ := ho
  rw [kcellsC] at hsz
  obtain ⟨u0, u1, u2, u3, u4, u5, u6, rfl⟩ : ∃ u0 u1 u2 u3 u4 u5 u6, cs = #[u0, u1, u2, u3, u4, u5, u6] := by
    match cs, hsz with
    | ⟨[u0, u1, u2, u3, u4, u5, u6]⟩, _ => exact ⟨u0, u1, u2, u3, u4, u5, u6, rfl⟩
  obtain ⟨ts, hts, _, hok⟩ := hrow
  obtain rfl := Option.some.inj (ktypesC.symm.trans hts)
  obtain ⟨k1, e1, o1⟩ := hok 1 u1 rfl
  obtain ⟨k2, e2, o2⟩ := hok 2 u2 rfl
  obtain ⟨k3, e3, o3⟩ := hok 3 u3 rfl
  obtain ⟨k5, e5, o5⟩ := hok 5 u5 rfl
  simp at e1 e2 e3 e5
  subst e1 e2 e3 e5
  obtain ⟨fuel, hf⟩ := h
  obtain ⟨y0, y1, y2, y3, y4, y5, y6, n, _, t0, t1, t2, t3, t4, t5, t6⟩ := trod_struct7 Tryz.underlying32 hf
  simp only [kcellsI, kcellsB, kcellsKs, kcellsEs, kcellsPs, kcellsIs, Value.cells, List.drop, List.take] at t0 t1 t2 t3 t4 t5 t6
  obtain ⟨a, ha, _, wa⟩ := DataW.trod_int Tryz.underlying3 t0
  obtain ⟨sets, r1, f1⟩ := csets_of (enc := enc) o1 t1
  obtain ⟨ddt, r2, f2⟩ := ents_of (enc := enc) o2 t2
  obtain ⟨parts, r3, f3⟩ := parts_of (enc := enc) o3 t3
  obtain ⟨d, hd, _⟩ := DataW.trod_bool Tryz.underlying4 t4
  obtain ⟨safe, r5⟩ := ints_of (enc := enc) o5 t5
  obtain ⟨b, hb, _, wb⟩ := DataW.trod_int Tryz.underlying3 t6
  simp at ha hd hb
  subst ha hd hb
  exact ⟨u1, u2, u3, u5, ⟨a, sets, ddt, parts, d, safe, b⟩, rfl, ⟨r1, r2, r3, r5, low_of_ok Tryz.underlying27 o1, low_of_ok Tryz.underlying28 o2, low_of_ok Tryz.underlying29 o3, low_of_ok Tryz.underlying30 o5⟩, ⟨bounds_i64 wa, bounds_i64 wb, f1, f2, f3⟩⟩
end
end Go.Proofs.YtojjenclcidnkaaGreatDoor

/-
  The laws' own helpers on sets of a book and on their eight blocks.
-/
set_option maxRecDepth 100000
namespace Go.Proofs.YtojjenclcidnkaaGreatDoor
open Go.ChangeShapes Go.WideShapes Go.ChangeAt Go.RowKit Go.Proofs.Palim

/-- A set, as plain data. -/
structure SetM where
  name : ByteArray
  kind : Int
  frm : ByteArray
  b0 : ByteArray
  b1 : ByteArray
  b2 : ByteArray
  b3 : ByteArray
  b4 : ByteArray
  b5 : ByteArray
  b6 : ByteArray
  b7 : ByteArray
def SetM.bs (x : SetM) : List ByteArray := [x.b0, x.b1, x.b2, x.b3, x.b4, x.b5, x.b6, x.b7]
theorem SetM.bs_length (x : SetM) : x.bs.length = 8 := rfl
/-- Its cells, and those of a list of sets. -/
def kc (x : SetM) : List Value := [.string x.name, .int .i64 x.kind, .string x.frm, .string x.b0, .string x.b1, .string x.b2, .string x.b3, .string x.b4, .string x.b5, .string x.b6, .string x.b7]
theorem kc_length (x : SetM) : (kc x).length = 11 := rfl
theorem kc_bs (x : SetM) (j : Nat) (h : j < 8) : (kc x)[3 + j]? = some (.string (x.bs[j]'(by rw [x.bs_length]; exact h))) := by
  match j, h with
  | 0, _ => rfl
  | 1, _ => rfl
  | 2, _ => rfl
  | 3, _ => rfl
  | 4, _ => rfl
  | 5, _ => rfl
  | 6, _ => rfl
  | 7, _ => rfl
def kcs (ls : List SetM) : List Value := ls.flatMap kc
theorem kcs_length (ls : List SetM) : (kcs ls).length = ls.length * 11 := by
  induction ls with
  | nil => rfl
  | cons x ls ih => simp [kcs, kc] at ih ⊢; omega
theorem kcs_snoc (a : List SetM) (x : SetM) : kcs (a ++ [x]) = kcs a ++ kc x := by simp [kcs]
theorem kcs_append (a b : List SetM) : kcs (a ++ b) = kcs a ++ kcs b := by simp [kcs]
theorem kcs_at (ls : List SetM) : ∀ (k : Nat) (h : k < ls.length) (j : Nat), j < 11 → (kcs ls)[k * 11 + j]? = (kc ls[k])[j]? := by
  induction ls with
  | nil => intro k h; simp at h
  | cons x ls ih =>
    intro k h j hj
    have e : kcs (x :: ls) = kc x ++ kcs ls := by simp [kcs]
    cases k with
    | zero => rw [e, List.getElem?_append_left (by rw [kc_length]; omega)]; simp
    | succ k =>
      have := ih k (by simpa using h) j hj
      rw [e, List.getElem?_append_right (by rw [kc_length]; omega), kc_length, show (k + 1) * 11 + j - 11 = k * 11 + j by omega, this]
      simp
/-- A set reads at these cells. -/
def SetAt (w : World) (b o : Nat) (x : SetM) : Prop := ∀ j u, (kc x)[j]? = some u → w.cell? ⟨b, o + j, none⟩ = some u
theorem SetAt.all {w : World} {b o : Nat} {x : SetM} (h : SetAt w b o x) :
    w.cell? ⟨b, o, none⟩ = some (.string x.name) ∧ w.cell? ⟨b, o + 1, none⟩ = some (.int .i64 x.kind) ∧ w.cell? ⟨b, o + 2, none⟩ = some (.string x.frm) ∧
    w.cell? ⟨b, o + 3, none⟩ = some (.string x.b0) ∧ w.cell? ⟨b, o + 4, none⟩ = some (.string x.b1) ∧ w.cell? ⟨b, o + 5, none⟩ = some (.string x.b2) ∧ w.cell? ⟨b, o + 6, none⟩ = some (.string x.b3) ∧
    w.cell? ⟨b, o + 7, none⟩ = some (.string x.b4) ∧ w.cell? ⟨b, o + 8, none⟩ = some (.string x.b5) ∧ w.cell? ⟨b, o + 9, none⟩ = some (.string x.b6) ∧ w.cell? ⟨b, o + 10, none⟩ = some (.string x.b7) :=
  ⟨h 0 _ rfl, h 1 _ rfl, h 2 _ rfl, h 3 _ rfl, h 4 _ rfl, h 5 _ rfl, h 6 _ rfl, h 7 _ rfl, h 8 _ rfl, h 9 _ rfl, h 10 _ rfl⟩
theorem SetAt.blk {w : World} {b o : Nat} {x : SetM} (h : SetAt w b o x) (j : Nat) (hj : j < 8) : w.cell? ⟨b, o + 3 + j, none⟩ = some (.string (x.bs[j]'(by rw [x.bs_length]; exact hj))) := by
  rw [Nat.add_assoc]; exact h (3 + j) _ (kc_bs x j hj)
theorem SetAt.kept {w w' : World} {b o : Nat} {x : SetM} (h : SetAt w b o x) (hk : w'.heap[b]? = w.heap[b]?) : SetAt w' b o x := fun j u hu => (World.cell?_of_block hk).trans (h j u hu)
theorem SetAt.below {w w' : World} {b o B : Nat} {x : SetM} (h : SetAt w b o x) (hb : Below B w w') (hB : b < B) : SetAt w' b o x := h.kept (hb.block b hB)
theorem SetAt.lt {w : World} {b o : Nat} {x : SetM} (h : SetAt w b o x) : b < w.heap.size := World.block_lt_of_cell? w _ (h 0 _ rfl)
theorem set_read {w : World} {ls : List SetM} {b off : Nat} (hc : ∀ j u, (kcs ls)[j]? = some u → w.cell? ⟨b, off + j, none⟩ = some u) (k : Nat) (h : k < ls.length) : SetAt w b (off + k * 11) ls[k] := by
  intro j u hu
  have hj : j < 11 := (List.getElem?_eq_some_iff.1 hu).1
  rw [Nat.add_assoc]
  exact hc _ _ ((kcs_at ls k h j hj).trans hu)

theorem below_drewN {B : Nat} {w w' : World} (h : Below B w w') (q : Nat) : Below B w (w'.drewN q) := ⟨h.os, h.tape, h.output, h.size, h.block⟩

/-- A set as a value. -/
theorem infoSet : (Tryz.prog.info? 97).map (fun i => (i.zero, i.size, i.bytes)) = some (some (.agg #[.string ⟨#[]⟩, .int .i64 0, .string ⟨#[]⟩, .string ⟨#[]⟩, .string ⟨#[]⟩, .string ⟨#[]⟩, .string ⟨#[]⟩, .string ⟨#[]⟩, .string ⟨#[]⟩, .string ⟨#[]⟩, .string ⟨#[]⟩]), 11, 168) := by kernel_rfl

end Go.Proofs.YtojjenclcidnkaaGreatDoor

/-
  The laws' own helpers on lists of sets: measured, copied, compared.
-/
set_option maxRecDepth 100000
namespace Go.Proofs.YtojjenclcidnkaaGreatDoor
open Go.ChangeShapes Go.WideShapes Go.ChangeAt Go.RowKit Go.Proofs.Palim

theorem take_set11 {α : Type} (xs : List α) (k : Nat) (a0 a1 a2 a3 a4 a5 a6 a7 a8 a9 a10 : α) (h : k * 11 + 10 < xs.length) :
    ((((((((((((xs.set (k * 11) a0).set (k * 11 + 1) a1).set (k * 11 + 2) a2).set (k * 11 + 3) a3).set (k * 11 + 4) a4).set (k * 11 + 5) a5).set (k * 11 + 6) a6).set (k * 11 + 7) a7).set (k * 11 + 8) a8).set (k * 11 + 9) a9).set (k * 11 + 10) a10)).take ((k + 1) * 11) = xs.take (k * 11) ++ [a0, a1, a2, a3, a4, a5, a6, a7, a8, a9, a10] := by
  rw [show (k + 1) * 11 = k * 11 + 10 + 1 by omega]
  iterate 10 rw [take_set_succ _ _ _ (by simp; omega)]
  rw [take_set_succ _ _ _ (by omega)]
  simp

/-- How many bytes a set holds. -/
def ksz (x : SetM) : Nat := x.name.size + x.frm.size + tot x.bs
/-- A set whose texts may come in. -/
def KFit (x : SetM) : Prop := x.name.size ≤ maxLen ∧ x.frm.size ≤ maxLen ∧ ∀ s ∈ x.bs, s.size ≤ maxLen

/-- How many bytes a list of sets holds. -/
def kszs (ls : List SetM) : Nat := (ls.map ksz).sum
theorem kszs_snoc (a : List SetM) (x : SetM) : kszs (a ++ [x]) = kszs a + ksz x := by simp [kszs]

/-- A new list of sets of the call's own. -/
def NewSets (w : World) (ls : List SetM) (e : Ending) (w' : World) : Prop :=
  ∃ v, e = .returned v ∧ w'.ownsRow w.heap.size 97 11 v ls.length (kcs ls) ∧ Below w.heap.size w w'

end Go.Proofs.YtojjenclcidnkaaGreatDoor

/-
  Names of sets: what a name is, and both BookName.
-/
set_option maxRecDepth 100000
namespace Go.Proofs.YtojjenclcidnkaaGreatDoor
open Go.ChangeShapes Go.WideShapes Go.ChangeAt Go.RowKit Go.Proofs.Palim

/-- The bytes of a name are small letters. -/
def Letters (s : ByteArray) (k : Nat) : Prop := ∀ (i : Nat) (h : i < s.size), i < k → 97 ≤ s[i].toNat ∧ s[i].toNat ≤ 122
def NameOk (s : ByteArray) : Prop := 1 ≤ s.size ∧ s.size ≤ 6 ∧ Letters s s.size
instance (s : ByteArray) (k : Nat) : Decidable (Letters s k) := by unfold Letters; exact inferInstance
instance (s : ByteArray) : Decidable (NameOk s) := by unfold NameOk; exact inferInstance
theorem letters_succ {s : ByteArray} {k : Nat} (h : k < s.size) (hl : Letters s k) (h1 : 97 ≤ s[k].toNat) (h2 : s[k].toNat ≤ 122) : Letters s (k + 1) := by
  intro i hi hk
  by_cases e : i = k
  · subst e; exact ⟨h1, h2⟩
  · exact hl i hi (by omega)
theorem name_bad {s : ByteArray} {k : Nat} (h : k < s.size) (hb : s[k].toNat < 97 ∨ 122 < s[k].toNat) : decide (NameOk s) = false := by
  refine decide_eq_false ?_
  rintro ⟨_, _, hl⟩
  have := hl k h h
  omega
theorem name_len {s : ByteArray} (h : s.size < 1 ∨ 6 < s.size) : decide (NameOk s) = false := by
  refine decide_eq_false ?_
  rintro ⟨_, _, hl⟩
  omega
theorem name_good {s : ByteArray} {k : Nat} (h0 : 1 ≤ s.size) (h6 : s.size ≤ 6) (hk : s.size ≤ k) (hl : Letters s k) : decide (NameOk s) = true :=
  decide_eq_true ⟨h0, h6, fun i hi _ => hl i hi (by omega)⟩

set_option maxHeartbeats 1000000 in
theorem BookName_any (s : ByteArray) (w : World) (hs : s.size ≤ maxLen) :
    Calls Tryz.prog 76 #[.string s] w fun e w' => e = .returned (.bool (decide (NameOk s))) ∧ w' = w := by
  unfold maxLen at hs
  obtain ⟨ok, HOK⟩ : ∃ ok, Hid (decide (NameOk s) = ok) := ⟨_, Lib.hid rfl⟩
  rw [HOK.out]
  go_enter Tryz.func76, Tryz.ntmps76
  go_wp2
  go_loop [3] (fun i => ∃ k : Nat, k ≤ s.size ∧ i = .int .i64 k ∧ Hid (Letters s k)) (fun i => s.size - (intOf i).toNat)
  case atStart => exact ⟨0, Nat.zero_le _, rfl, Lib.hid (fun _ _ h => absurd h (Nat.not_lt_zero _))⟩
  case round =>
    obtain ⟨k, hk, rfl, HL⟩ := hrel
    by_cases hlt : k < s.size
    · by_cases h1 : s[k].toNat < 97
      · have HF := Lib.hid (HOK.out.symm.trans (name_bad hlt (Or.inl h1)))
        have h1z : (s[k].toNat : Int) < 97 := by omega
        go_wp2
        go_ret
        exact ⟨by rw [HF.out]; rfl, rfl⟩
      · by_cases h2 : 122 < s[k].toNat
        · have HF := Lib.hid (HOK.out.symm.trans (name_bad hlt (Or.inr h2)))
          have h1z : ¬ (s[k].toNat : Int) < 97 := by omega
          have h2z : (s[k].toNat : Int) > 122 := by omega
          go_wp2
          go_ret
          exact ⟨by rw [HF.out]; rfl, rfl⟩
        · have HL2 := Lib.hid (letters_succ hlt HL.out (by omega) (by omega))
          have h1z : ¬ (s[k].toNat : Int) < 97 := by omega
          have h2z : ¬ (s[k].toNat : Int) > 122 := by omega
          go_wp2
          go_roundw
          case rel => exact ⟨k + 1, by omega, by go_num, HL2⟩
          case measure => simp [intOf]; omega
    · by_cases h0 : 0 < s.size
      · by_cases h6 : s.size ≤ 6
        · have HF := Lib.hid (HOK.out.symm.trans (name_good h0 h6 (by omega) HL.out))
          have h6z : (s.size : Int) ≤ 6 := by omega
          go_wp2
          go_ret
          exact ⟨by rw [HF.out]; rfl, rfl⟩
        · have HF := Lib.hid (HOK.out.symm.trans (name_len (Or.inr (by omega))))
          have h6z : ¬ (s.size : Int) ≤ 6 := by omega
          go_wp2
          go_ret
          exact ⟨by rw [HF.out]; rfl, rfl⟩
      · have HF := Lib.hid (HOK.out.symm.trans (name_len (Or.inl (by omega))))
        go_wp2
        go_ret
        exact ⟨by rw [HF.out]; rfl, rfl⟩
set_option maxHeartbeats 1000000 in
theorem ImplBookName_any (s : ByteArray) (w : World) (hs : s.size ≤ maxLen) :
    Calls Tryz.prog 147 #[.string s] w fun e w' => e = .returned (.bool (decide (NameOk s))) ∧ w' = w := by
  unfold maxLen at hs
  obtain ⟨ok, HOK⟩ : ∃ ok, Hid (decide (NameOk s) = ok) := ⟨_, Lib.hid rfl⟩
  rw [HOK.out]
  by_cases h0 : s.size < 1
  · have HF := Lib.hid (HOK.out.symm.trans (name_len (Or.inl h0)))
    go_enter Tryz.func147, Tryz.ntmps147
    go_wp2
    go_ret
    exact ⟨by rw [HF.out]; rfl, rfl⟩
  by_cases h6 : 6 < s.size
  · have HF := Lib.hid (HOK.out.symm.trans (name_len (Or.inr h6)))
    go_enter Tryz.func147, Tryz.ntmps147
    go_wp2
    go_ret
    exact ⟨by rw [HF.out]; rfl, rfl⟩
  go_enter Tryz.func147, Tryz.ntmps147
  go_wp2
  go_loop [3, 14] (fun _ i => ∃ k : Nat, k ≤ s.size ∧ i = .int .i64 k ∧ Hid (Letters s k)) (fun _ i => s.size - (intOf i).toNat)
  case atStart => exact ⟨0, Nat.zero_le _, rfl, Lib.hid (fun _ _ h => absurd h (Nat.not_lt_zero _))⟩
  case round =>
    obtain ⟨k, hk, rfl, HL⟩ := hrel
    by_cases hlt : k < s.size
    · by_cases h1 : s[k].toNat < 97
      · have HF := Lib.hid (HOK.out.symm.trans (name_bad hlt (Or.inl h1)))
        have h1z : (s[k].toNat : Int) < 97 := by omega
        go_wp2
        go_ret
        exact ⟨by rw [HF.out]; rfl, rfl⟩
      · by_cases h2 : 122 < s[k].toNat
        · have HF := Lib.hid (HOK.out.symm.trans (name_bad hlt (Or.inr h2)))
          have h1z : ¬ (s[k].toNat : Int) < 97 := by omega
          have h2z : (s[k].toNat : Int) > 122 := by omega
          go_wp2
          go_ret
          exact ⟨by rw [HF.out]; rfl, rfl⟩
        · have HL2 := Lib.hid (letters_succ hlt HL.out (by omega) (by omega))
          have h1z : ¬ (s[k].toNat : Int) < 97 := by omega
          have h2z : ¬ (s[k].toNat : Int) > 122 := by omega
          go_wp2
          go_roundw
          case rel => exact ⟨k + 1, by omega, by go_num, HL2⟩
          case measure => simp [intOf]; omega
    · have HF := Lib.hid (HOK.out.symm.trans (name_good (by omega) (by omega) (by omega) HL.out))
      go_wp2
      go_ret
      exact ⟨by rw [HF.out]; rfl, rfl⟩
end Go.Proofs.YtojjenclcidnkaaGreatDoor

/-
  Books: as plain data, read in memory, and the laws' own helpers on them.
-/
set_option maxRecDepth 100000
namespace Go.Proofs.YtojjenclcidnkaaGreatDoor
open Go.ChangeShapes Go.WideShapes Go.ChangeAt Go.RowKit Go.Proofs.Palim

theorem list_eq_ofB {α : Type} {a b : List α} (hl : a.length = b.length) (h : ∀ (j : Nat) (h0 : j < a.length) (h1 : j < b.length), a[j] = b[j]) : a = b := List.ext_getElem hl fun j h0 h1 => h j h0 h1
theorem ret_boolB {a b : Bool} (h : a = b) : Ending.returned (.bool a) = Ending.returned (.bool b) := by rw [h]

/-- A book reads as these sets, and its block is there. -/
structure BookR (w : World) (v : Value) (ls : List SetM) : Prop where
  r : Sl w 11 v ls.length (kcs ls)
  l : ∀ b, v.ownBlock = some b → b < w.heap.size
theorem BookR.below {w w' : World} {v : Value} {ls : List SetM} {B : Nat} (h : BookR w v ls) (hb : Below B w w') (hB : w.heap.size ≤ B) : BookR w' v ls :=
  ⟨h.r.below hb (fun b e => Nat.lt_of_lt_of_le (h.l b e) hB), fun b e => Nat.lt_of_lt_of_le (h.l b e) hb.size⟩
theorem BookR.form {w : World} {v : Value} {ls : List SetM} (h : BookR w v ls) : ∃ A c, v = .slice A ls.length c := by
  obtain ⟨_, A, c, rfl, _⟩ := h.r
  exact ⟨A, c, rfl⟩
/-- A book that is not too long, and whose texts are not. -/
structure BookShort (ls : List SetM) : Prop where
  n : ls.length ≤ 1048576
  z : ∀ x ∈ ls, x.name.size ≤ 1048576 ∧ x.frm.size ≤ 1048576 ∧ ∀ s ∈ x.bs, s.size ≤ 1048576
/-- The book is the call's own. -/
structure BookOwn (w : World) (base : Nat) (v : Value) (ls : List SetM) : Prop where
  o : w.ownsRow base 97 11 v ls.length (kcs ls)
theorem BookOwn.reads {w : World} {base : Nat} {v : Value} {ls : List SetM} (h : BookOwn w base v ls) : BookR w v ls := ⟨sl_of_own h.o, fun b e => (h.o.lt b e).2⟩
theorem BookOwn.below {w w' : World} {base : Nat} {v : Value} {ls : List SetM} (h : BookOwn w base v ls) (hb : Below w.heap.size w w') : BookOwn w' base v ls := ⟨own_kept h.o fun b e => hb.block b (h.o.lt b e).2⟩
/-- A new book. -/
def NewBook (w : World) (ls : List SetM) (e : Ending) (w' : World) : Prop := ∃ v, e = .returned (.agg #[v]) ∧ BookOwn w' w.heap.size v ls ∧ Below w.heap.size w w'

theorem Below.new1 {w : World} (o : Obj) : Below w.heap.size w (w.alloc o) := (Below.refl _ _).alloc (Nat.le_refl _) _

theorem tot_le8 {ss : List ByteArray} {s : ByteArray} (h : s ∈ ss) : s.size ≤ tot ss := by
  induction ss with
  | nil => cases h
  | cons a ss ih =>
    rcases List.mem_cons.1 h with rfl | h
    · simp [tot]
    · have := ih h; simp [tot] at this ⊢; omega
theorem kszs_le {ls : List SetM} {x : SetM} (h : x ∈ ls) : ksz x ≤ kszs ls := by
  induction ls with
  | nil => cases h
  | cons a ss ih =>
    rcases List.mem_cons.1 h with rfl | h
    · simp [kszs]
    · have := ih h; simp [kszs] at this ⊢; omega
theorem book_short {ls : List SetM} (h : ls.length + kszs ls ≤ 1048576) : BookShort ls := by
  refine ⟨by omega, fun x hx => ?_⟩
  have h1 := kszs_le hx
  unfold ksz at h1
  refine ⟨by omega, by omega, fun s hs => ?_⟩
  have := tot_le8 hs
  omega
end Go.Proofs.YtojjenclcidnkaaGreatDoor

/-
  Books in boxes: what a law's variables are.
-/
set_option maxRecDepth 100000
namespace Go.Proofs.YtojjenclcidnkaaGreatDoor
open Go.ChangeShapes Go.WideShapes Go.ChangeAt Go.RowKit Go.Proofs.Palim

/-- A book in a box of its own, its blocks below B. -/
structure BBox (w : World) (x B : Nat) (v : Value) (ls : List SetM) : Prop where
  box : Box w x [v]
  low : ∀ b, v.ownBlock = some b → b < B
  reads : BookR w v ls
  lt : B ≤ x
theorem BBox.below {w w' : World} {x B : Nat} {v : Value} {ls : List SetM} (h : BBox w x B v ls) (hb : Below w.heap.size w w') : BBox w' x B v ls := ⟨h.box.below hb h.box.lt, h.low, h.reads.below hb (Nat.le_refl _), h.lt⟩
theorem bbox_new {w : World} {v : Value} {ls : List SetM} (h : BookR w v ls) (e : Nat) : BBox (w.alloc (.cells #[v] e)) w.heap.size w.heap.size v ls :=
  ⟨box_new _ _ _, h.l, h.below (Below.new1 _) (Nat.le_refl _), Nat.le_refl _⟩
theorem BookR.drew {w : World} {v : Value} {ls : List SetM} (h : BookR w v ls) : BookR w.drew v ls := ⟨h.r, h.l⟩
theorem BBox.drew {w : World} {x B : Nat} {v : Value} {ls : List SetM} (h : BBox w x B v ls) : BBox w.drew x B v ls := ⟨h.box, h.low, h.reads.drew, h.lt⟩
theorem BBox.cell {w : World} {x B : Nat} {v : Value} {ls : List SetM} (h : BBox w x B v ls) : w.cell? ⟨x, 0, none⟩ = some v := h.box.cell 0 rfl
theorem BookOwn.form {w : World} {base : Nat} {v : Value} {ls : List SetM} (h : BookOwn w base v ls) : ∃ A c, v = .slice A ls.length c := h.reads.form
theorem below_drewB (w : World) : Below w.heap.size w w.drew := (Below.refl _ _).drew
end Go.Proofs.YtojjenclcidnkaaGreatDoor

/-
  Cores in boxes: what a law's variables are.
-/
set_option maxRecDepth 100000
namespace Go.Proofs.YtojjenclcidnkaaGreatDoor
open Go.ChangeShapes Go.WideShapes Go.ChangeAt Go.RowKit Go.Proofs.Palim

structure KBox (w : World) (x : Nat) (vs vd vp vi : Value) (c : CoreM) : Prop where
  box : Box w x (kcore c vs vd vp vi)
  reads : CoreR w vs vd vp vi c
theorem KBox.below {w w' : World} {x : Nat} {vs vd vp vi : Value} {c : CoreM} (h : KBox w x vs vd vp vi c) (hb : Below w.heap.size w w') : KBox w' x vs vd vp vi c := ⟨h.box.below hb h.box.lt, h.reads.below hb⟩
theorem kbox_new {w : World} {vs vd vp vi : Value} {c : CoreM} (h : CoreR w vs vd vp vi c) (e : Nat) : KBox (w.alloc (.cells #[.int .i64 c.txg, vs, vd, vp, .bool c.dirty, vi, .int .i64 c.logn] e)) w.heap.size vs vd vp vi c :=
  ⟨box_new _ _ _, h.below (Below.new1 _)⟩
theorem CoreR.drew {w : World} {vs vd vp vi : Value} {c : CoreM} (h : CoreR w vs vd vp vi c) : CoreR w.drew vs vd vp vi c := ⟨h.s, h.d, h.p, h.i, h.ls, h.ld, h.lp, h.li⟩
theorem KBox.drew {w : World} {x : Nat} {vs vd vp vi : Value} {c : CoreM} (h : KBox w x vs vd vp vi c) : KBox w.drew x vs vd vp vi c := ⟨h.box, h.reads.drew⟩
theorem aggCoreL : Agg Tryz.prog 32 7 := ⟨Tryz.isAgg32, Tryz.sizeOf32⟩
end Go.Proofs.YtojjenclcidnkaaGreatDoor

/-
  The law on DiskOk, walked: what is asked of impl is hI.
-/
set_option maxRecDepth 100000
namespace Go.Proofs.YtojjenclcidnkaaGreatDoor
open Go.ChangeShapes Go.WideShapes Go.ChangeAt Go.RowKit Go.Proofs.Palim

theorem tot_le {ss : List ByteArray} {s : ByteArray} (h : s ∈ ss) : s.size ≤ tot ss := by
  induction ss with
  | nil => cases h
  | cons a ss ih =>
    rcases List.mem_cons.1 h with rfl | h
    · simp [tot]
    · have := ih h; simp [tot] at this ⊢; omega
theorem short_of_sz {d : DiskM} (h : dsz d ≤ 1048576) : DiskShort d := by
  unfold dsz at h
  refine ⟨by omega, by omega, by omega, fun s hs => ?_, fun s hs => ?_, fun x hx => ?_⟩
  · have := tot_le hs; omega
  · have := tot_le hs; omega
  · have := tot_le (List.mem_map_of_mem (f := (·.text)) hx); omega

end Go.Proofs.YtojjenclcidnkaaGreatDoor
