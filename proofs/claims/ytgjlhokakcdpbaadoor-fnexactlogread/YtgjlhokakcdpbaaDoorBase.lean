/-
  Texts joined into one: the draws of disks, and what they want.
-/
import Derived.Test.YtgjlhokakcdpbaaDoorRows
import Derived.Test.YtgjlhokakcdpbaaDoorSum
import Derived.Test.YtgjlhokakcdpbaaDoorBytes
import Derived.Test.YtgjlhokakcdpbaaDoorMem
import Derived.WalkKit
import Derived.ProofKit
import Derived.Lib.Hide
import Derived.Lib.ItoaNum
import Derived.Lib.ItoaMem
import Derived.Lib.ItoaLen
import Derived.WalkSpells
import Derived.WalkSmall
import Derived.Deep.QuietTactic
import Derived.BigQuiet
import Derived.Deep.Draws
import Derived.Deep.RegionHeld3
import Derived.Laws.Pointers
import Derived.Test.YtgjlhokakcdpbaaDoorBox

/-
  The laws' own helpers on lists of strings: copied, compared, measured, marked and asked for the marks.
-/
set_option maxRecDepth 100000
namespace Go.Proofs.YtgjlhokakcdpbaaDoor
open Go.ChangeShapes Go.WideShapes Go.ChangeAt Go.RowKit Go.Proofs.Palim

theorem infoStr : (Tryd.prog.info? 9).map (fun i => (i.zero, i.size, i.bytes)) = some (some (.string ⟨#[]⟩), 1, 16) := by kernel_rfl

/-- A new list of strings of the call's own. -/
def NewStrs (w : World) (ss : List ByteArray) (e : Ending) (w' : World) : Prop :=
  ∃ v, e = .returned v ∧ w'.ownsRow w.heap.size 9 1 v ss.length (scs ss) ∧ Below w.heap.size w w'

theorem drewN_zero (w : World) : w.drewN 0 = w := rfl
/-- Only the count of draws has moved. -/
def Drawn (v : Value) (w : World) (e : Ending) (w' : World) : Prop := e = .returned v ∧ ∃ q, w' = w.drewN q

/-- The bytes of a list of strings. -/
def tot (ss : List ByteArray) : Nat := (ss.map ByteArray.size).sum
theorem tot_snoc (a : List ByteArray) (s : ByteArray) : tot (a ++ [s]) = tot a + s.size := by simp [tot]
/-- What is left behind n elements and t bytes; or less than nothing. -/
def SzPost (m : Nat) (left : Int) (w : World) (e : Ending) (w' : World) : Prop := ∃ r : Int, e = .returned (.int .i64 r) ∧ w = w' ∧ (r = -1 ∨ 0 ≤ r ∧ r + m = left)

/-- The text of a mark. -/
def mkText (k : Nat) : ByteArray := ⟨(109 :: Lib.decDigits k).toArray⟩

/-- The marks from k on. -/
def marks (k n : Nat) : List ByteArray := (List.range n).map fun i => mkText (k + i)
theorem marks_length (k n : Nat) : (marks k n).length = n := by simp [marks]
theorem marks_succ (k n : Nat) : marks k (n + 1) = marks k n ++ [mkText (k + n)] := by simp [marks, List.range_succ]
theorem marks_at (k n i : Nat) (h' : i < (marks k n).length) : (marks k n)[i] = mkText (k + i) := by simp [marks]

/-- Marked: the slice holds the marks, and nothing else that was there has turned. -/
def Marked (k : Nat) (v : Value) (base n : Nat) (w : World) (e : Ending) (w' : World) : Prop :=
  e = .returned (.int .i64 ((k + n : Nat) : Int)) ∧ w'.ownsRow base 9 1 v n (scs (marks k n)) ∧ Turned (fun b => v.ownBlock = some b) w w'

def HeldPost (r : Int) (w : World) (e : Ending) (w' : World) : Prop := e = .returned (.int .i64 r) ∧ Below w.heap.size w w'

end Go.Proofs.YtgjlhokakcdpbaaDoor

/-
  The laws' own helpers on lists of late writes.
-/
set_option maxRecDepth 100000
namespace Go.Proofs.YtgjlhokakcdpbaaDoor
open Go.ChangeShapes Go.WideShapes Go.ChangeAt Go.RowKit Go.Proofs.Palim

/-- A late write, as plain data. -/
structure LateM where
  side : Int
  at_ : Int
  text : ByteArray
def lc (x : LateM) : List Value := [.int .i64 x.side, .int .i64 x.at_, .string x.text]
def lcs (ls : List LateM) : List Value := ls.flatMap lc
theorem lcs_length (ls : List LateM) : (lcs ls).length = ls.length * 3 := by
  induction ls with
  | nil => rfl
  | cons x ls ih => simp [lcs, lc] at ih ⊢; omega
theorem lcs_snoc (a : List LateM) (x : LateM) : lcs (a ++ [x]) = lcs a ++ lc x := by simp [lcs]
theorem lcs_at (ls : List LateM) : ∀ (k : Nat) (h : k < ls.length), (lcs ls)[k * 3]? = some (.int .i64 ls[k].side) ∧ (lcs ls)[k * 3 + 1]? = some (.int .i64 ls[k].at_) ∧ (lcs ls)[k * 3 + 2]? = some (.string ls[k].text) := by
  induction ls with
  | nil => intro k h; simp at h
  | cons x ls ih =>
    intro k h
    have e : lcs (x :: ls) = [.int .i64 x.side, .int .i64 x.at_, .string x.text] ++ lcs ls := by simp [lcs, lc]
    cases k with
    | zero => rw [e]; exact ⟨rfl, rfl, rfl⟩
    | succ k =>
      have := ih k (by simpa using h)
      rw [e, show (k + 1) * 3 = k * 3 + 3 by omega]
      rw [List.getElem?_append_right (by simp), List.getElem?_append_right (by simp <;> omega), List.getElem?_append_right (by simp <;> omega)]
      simp only [List.length_cons, List.length_nil, List.getElem_cons_succ]
      rw [show k * 3 + 3 - (0 + 1 + 1 + 1) = k * 3 by omega, show k * 3 + 3 + 1 - (0 + 1 + 1 + 1) = k * 3 + 1 by omega, show k * 3 + 3 + 2 - (0 + 1 + 1 + 1) = k * 3 + 2 by omega]
      exact this
theorem late_read {w : World} {ls : List LateM} {b off : Nat} (hc : ∀ j u, (lcs ls)[j]? = some u → w.cell? ⟨b, off + j, none⟩ = some u) (k : Nat) (h : k < ls.length) :
    w.cell? ⟨b, off + k * 3, none⟩ = some (.int .i64 ls[k].side) ∧ w.cell? ⟨b, off + k * 3 + 1, none⟩ = some (.int .i64 ls[k].at_) ∧ w.cell? ⟨b, off + k * 3 + 2, none⟩ = some (.string ls[k].text) := by
  have hat := lcs_at ls k h
  exact ⟨hc _ _ hat.1, by rw [Nat.add_assoc]; exact hc _ _ hat.2.1, by rw [Nat.add_assoc]; exact hc _ _ hat.2.2⟩
/-- As a value. -/
def lv (x : LateM) : Value := .agg #[.int .i64 x.side, .int .i64 x.at_, .string x.text]

end Go.Proofs.YtgjlhokakcdpbaaDoor

/-
  Lists of late writes marked, and asked for the marks.
-/
set_option maxRecDepth 100000
namespace Go.Proofs.YtgjlhokakcdpbaaDoor
open Go.ChangeShapes Go.WideShapes Go.ChangeAt Go.RowKit Go.Proofs.Palim

/-- The marks of late writes from k on. -/
def lmarks (k n : Nat) : List LateM := (List.range n).map fun i => ⟨((k + 3 * i : Nat) : Int), ((k + 3 * i + 1 : Nat) : Int), mkText (k + 3 * i + 2)⟩
theorem lmarks_length (k n : Nat) : (lmarks k n).length = n := by simp [lmarks]
theorem lmarks_succ (k n : Nat) : lmarks k (n + 1) = lmarks k n ++ [⟨((k + 3 * n : Nat) : Int), ((k + 3 * n + 1 : Nat) : Int), mkText (k + 3 * n + 2)⟩] := by simp [lmarks, List.range_succ]
theorem lmarks_at (k n i : Nat) (h' : i < (lmarks k n).length) : (lmarks k n)[i] = ⟨((k + 3 * i : Nat) : Int), ((k + 3 * i + 1 : Nat) : Int), mkText (k + 3 * i + 2)⟩ := by simp [lmarks]

end Go.Proofs.YtgjlhokakcdpbaaDoor

/-
  Pairs of lists of strings: the laws' helpers.
-/
set_option maxRecDepth 100000
namespace Go.Proofs.YtgjlhokakcdpbaaDoor
open Go.ChangeShapes Go.WideShapes Go.ChangeAt Go.RowKit Go.Proofs.Palim

def NewPair (w : World) (s0 s1 : List ByteArray) (e : Ending) (w' : World) : Prop :=
  ∃ u0 u1, e = .returned (.agg #[u0, u1]) ∧ w'.ownsRow w.heap.size 9 1 u0 s0.length (scs s0) ∧ w'.ownsRow w.heap.size 9 1 u1 s1.length (scs s1) ∧ Apart u0 u1 ∧ Below w.heap.size w w'

end Go.Proofs.YtgjlhokakcdpbaaDoor

/-
  Pairs of lists of strings: marked, and asked for marks.
-/
set_option maxRecDepth 100000
namespace Go.Proofs.YtgjlhokakcdpbaaDoor
open Go.ChangeShapes Go.WideShapes Go.ChangeAt Go.RowKit Go.Proofs.Palim

def MarkedPair (k : Nat) (v0 v1 : Value) (base n0 n1 : Nat) (w : World) (e : Ending) (w' : World) : Prop :=
  e = .returned (.int .i64 ((k + n0 + n1 : Nat) : Int)) ∧ w'.ownsRow base 9 1 v0 n0 (scs (marks k n0)) ∧ w'.ownsRow base 9 1 v1 n1 (scs (marks (k + n0) n1)) ∧ Turned (fun b => v0.ownBlock = some b ∨ v1.ownBlock = some b) w w'

end Go.Proofs.YtgjlhokakcdpbaaDoor

/-
  Disks as values: what they read as, which of them a call owns, and the laws' helpers on them.
-/
set_option maxRecDepth 100000
namespace Go.Proofs.YtgjlhokakcdpbaaDoor
open Go.ChangeShapes Go.WideShapes Go.ChangeAt Go.RowKit Go.Proofs.Palim

structure DiskM where
  s0 : List ByteArray
  s1 : List ByteArray
  late : List LateM

/-- The block of a value lies below B. -/
def Low (B : Nat) (v : Value) : Prop := ∀ b, v.ownBlock = some b → b < B
theorem Low.mono {B B' : Nat} {v : Value} (h : Low B v) (hB : B ≤ B') : Low B' v := fun b e => Nat.lt_of_lt_of_le (h b e) hB
theorem low_of_own {w : World} {base e sz n : Nat} {v : Value} {xs : List Value} (h : w.ownsRow base e sz v n xs) : Low w.heap.size v := fun b e => (h.lt b e).2

/-- Three slices that read as a disk. -/
structure DiskR (w : World) (v0 v1 vl : Value) (d : DiskM) : Prop where
  r0 : Sl w 1 v0 d.s0.length (scs d.s0)
  r1 : Sl w 1 v1 d.s1.length (scs d.s1)
  rl : Sl w 3 vl d.late.length (lcs d.late)
  l0 : Low w.heap.size v0
  l1 : Low w.heap.size v1
  ll : Low w.heap.size vl
theorem DiskR.below {w w' : World} {v0 v1 vl : Value} {d : DiskM} (h : DiskR w v0 v1 vl d) (hb : Below w.heap.size w w') : DiskR w' v0 v1 vl d :=
  ⟨h.r0.below hb h.l0, h.r1.below hb h.l1, h.rl.below hb h.ll, h.l0.mono hb.size, h.l1.mono hb.size, h.ll.mono hb.size⟩
/-- Short enough for the laws. -/
structure DiskShort (d : DiskM) : Prop where
  n0 : d.s0.length ≤ 1048576
  n1 : d.s1.length ≤ 1048576
  nl : d.late.length ≤ 1048576
  z0 : ∀ s ∈ d.s0, s.size ≤ 1048576
  z1 : ∀ s ∈ d.s1, s.size ≤ 1048576
  zl : ∀ x ∈ d.late, x.text.size ≤ 1048576

theorem own4 {w : World} {base e sz n : Nat} {v : Value} {xs : List Value} (h : w.ownsRow base e sz v n xs) {a b c d : Addr} {x y z u : Value} (ha : a.block < base) (hb : b.block < base) (hc : c.block < base) (hd : d.block < base) :
    ((((w.setCell a x).setCell b y).setCell c z).setCell d u).ownsRow base e sz v n xs :=
  ownsRow_setCell_below (ownsRow_setCell_below (ownsRow_setCell_below (ownsRow_setCell_below h ha _) hb _) hc _) hd _

end Go.Proofs.YtgjlhokakcdpbaaDoor

/-
  Disks compared, sized, marked, asked for marks.
-/
set_option maxRecDepth 100000
namespace Go.Proofs.YtgjlhokakcdpbaaDoor
open Go.ChangeShapes Go.WideShapes Go.ChangeAt Go.RowKit Go.Proofs.Palim

def dsz (d : DiskM) : Nat := d.s0.length + tot d.s0 + (d.s1.length + tot d.s1) + (d.late.length + tot (d.late.map (·.text)))

/-- The disk of marks from k on. -/
def dmarks (k n0 n1 nl : Nat) : DiskM := ⟨marks k n0, marks (k + n0) n1, lmarks (k + n0 + n1) nl⟩
def DTurns (v0 v1 vl : Value) (b : Nat) : Prop := v0.ownBlock = some b ∨ v1.ownBlock = some b ∨ vl.ownBlock = some b
end Go.Proofs.YtgjlhokakcdpbaaDoor

/-
  Which disks are valid: spec's DiskOk.
-/
set_option maxRecDepth 100000
namespace Go.Proofs.YtgjlhokakcdpbaaDoor
open Go.ChangeShapes Go.WideShapes Go.ChangeAt Go.RowKit Go.Proofs.Palim

/-- There is such a sector, and the text fits. -/
def There (n : Nat) (side at_ : Int) (size : Nat) : Prop := 0 ≤ side ∧ side ≤ 1 ∧ 0 ≤ at_ ∧ at_ < n ∧ size ≤ 420
instance (n : Nat) (side at_ : Int) (size : Nat) : Decidable (There n side at_ size) := by unfold There; infer_instance

theorem ret_bool {a b : Bool} (h : a = b) : Ending.returned (.bool a) = Ending.returned (.bool b) := by rw [h]

theorem dec_eq {a b : Bool} (h : a = true ↔ b = true) : a = b := by cases a <;> cases b <;> simp_all

def DiskOkM (d : DiskM) : Prop := 1 ≤ d.s0.length ∧ d.s0.length ≤ 120 ∧ d.s1.length = d.s0.length ∧ d.late.length ≤ 600 ∧ (∀ s ∈ d.s0, s.size ≤ 420) ∧ (∀ s ∈ d.s1, s.size ≤ 420) ∧ ∀ x ∈ d.late, There d.s0.length x.side x.at_ x.text.size
instance (d : DiskM) : Decidable (DiskOkM d) := by unfold DiskOkM; infer_instance

end Go.Proofs.YtgjlhokakcdpbaaDoor

/-
  spec's DiskOpen.
-/
set_option maxRecDepth 100000
namespace Go.Proofs.YtgjlhokakcdpbaaDoor
open Go.ChangeShapes Go.WideShapes Go.ChangeAt Go.RowKit Go.Proofs.Palim

def noDisk : DiskM := ⟨[], [], []⟩
def openM (n : Int) : DiskM := if n < 1 ∨ n > 120 then noDisk else ⟨List.replicate n.toNat ⟨#[]⟩, List.replicate n.toNat ⟨#[]⟩, []⟩

/-- A new slice of n empty strings. -/
theorem makeStrs (n : Nat) (hn : n ≤ 1048576) (w : World) :
    (Instr.makeSlice 41 (.int .i64 (n : Int)) (.int .i64 (n : Int))).run Tryd.prog w = .ok (.slice (some ⟨w.heap.size, 0, none⟩) n n) (w.alloc (.cells (madeCells #[.string ⟨#[]⟩] n) 9)) := by
  obtain ⟨i0, hi, hz0, hz1, hz2⟩ := info_parts infoStr
  have h := run_make (P := Tryd.prog) w 41 9 i0 _ Tryd.underlying41 hi hz0 .i64 .i64 n n (by omega) (by omega) (by rw [hz2]; omega) (by omega)
  simp only [Int.toNat_natCast, hz1, Nat.mul_one] at h
  exact h
theorem made_strs (n : Nat) : (madeCells #[Value.string ⟨#[]⟩] n).toList = scs (List.replicate n ⟨#[]⟩) := by
  apply List.ext_getElem
  · simp [madeCells, scs]
  · intro i h1 h2
    simp [madeCells, scs, Nat.mod_one]
theorem heap3 (w : World) (a b c : Obj) : (((w.alloc a).alloc b).alloc c).heap[w.heap.size + 1]? = some b ∧ (((w.alloc a).alloc b).alloc c).heap[w.heap.size + 1 + 1]? = some c := by
  constructor
  · rw [Below.heap_alloc _ _ _ (by simp)]
    have h : ((w.alloc a).heap.push b)[(w.alloc a).heap.size]? = some b := Array.getElem?_push_size
    rwa [show (w.alloc a).heap.size = w.heap.size + 1 by simp] at h
  · have h : (((w.alloc a).alloc b).heap.push c)[((w.alloc a).alloc b).heap.size]? = some c := Array.getElem?_push_size
    rwa [show ((w.alloc a).alloc b).heap.size = w.heap.size + 1 + 1 by simp] at h
theorem own_new {w : World} {base b e sz n : Nat} {c : Array Value} (h : w.heap[b]? = some (.cells c e (0, 0))) (hc : c.size = n * sz) (hn : n ≤ maxLen) (hb : base ≤ b) : w.ownsRow base e sz (.slice (some ⟨b, 0, none⟩) n n) n c.toList := by
  refine ⟨by simpa using hc, .inr ⟨b, n, c, rfl, hb, h, Nat.le_refl _, hn, by omega, ?_⟩⟩
  rw [List.take_of_length_le (by simp [hc])]
theorem own_made {w : World} {base b m : Nat} (h : w.heap[b]? = some (.cells (madeCells #[.string ⟨#[]⟩] m) 9 (0, 0))) (hn : m ≤ maxLen) (hb : base ≤ b) :
    w.ownsRow base 9 1 (.slice (some ⟨b, 0, none⟩) m m) (List.replicate m (⟨#[]⟩ : ByteArray)).length (scs (List.replicate m ⟨#[]⟩)) := by
  have h := own_new (sz := 1) h (by simp [size_madeCells]) hn hb
  rw [made_strs] at h
  rwa [List.length_replicate]

end Go.Proofs.YtgjlhokakcdpbaaDoor

/-
  What the laws on disks have in common.
-/
set_option maxRecDepth 100000
namespace Go.Proofs.YtgjlhokakcdpbaaDoor
open Go.ChangeShapes Go.WideShapes Go.ChangeAt Go.RowKit Go.Proofs.Palim

/-- The blocks of a disk lie below B. -/
structure DiskLow (B : Nat) (v0 v1 vl : Value) : Prop where
  l0 : Low B v0
  l1 : Low B v1
  ll : Low B vl
theorem DiskLow.mono {B B' : Nat} {v0 v1 vl : Value} (h : DiskLow B v0 v1 vl) (hB : B ≤ B') : DiskLow B' v0 v1 vl := ⟨h.l0.mono hB, h.l1.mono hB, h.ll.mono hB⟩
theorem DiskR.low {w : World} {v0 v1 vl : Value} {d : DiskM} (h : DiskR w v0 v1 vl d) : DiskLow w.heap.size v0 v1 vl := ⟨h.l0, h.l1, h.ll⟩
theorem short_no : DiskShort noDisk := ⟨by simp [noDisk], by simp [noDisk], by simp [noDisk], by simp [noDisk], by simp [noDisk], by simp [noDisk]⟩
theorem short_open (n : Int) : DiskShort (openM n) := by
  unfold openM
  split
  · exact short_no
  · refine ⟨by simp; omega, by simp; omega, by simp, ?_, ?_, by simp⟩
    all_goals
      intro s hs
      rw [List.eq_of_mem_replicate hs]
      exact Nat.zero_le _

/-- The count of marks of a disk, from k on. -/
def dmend (k : Nat) (d : DiskM) : Nat := k + d.s0.length + d.s1.length + 3 * d.late.length
theorem dmend_small {d : DiskM} (hs : DiskShort d) {k : Nat} (hk : k ≤ 80000000) : dmend k d ≤ 90000000 := by have := hs.n0; have := hs.n1; have := hs.nl; unfold dmend; omega
/-- A disk in a box of its own: what the law's variables are. -/
structure Boxed (w : World) (x B : Nat) (v0 v1 vl : Value) (d : DiskM) : Prop where
  box : Box w x [v0, v1, vl]
  low : DiskLow B v0 v1 vl
  reads : DiskR w v0 v1 vl d
  lt : B ≤ x
theorem Boxed.below {w w' : World} {x B : Nat} {v0 v1 vl : Value} {d : DiskM} (h : Boxed w x B v0 v1 vl d) (hb : Below w.heap.size w w') : Boxed w' x B v0 v1 vl d := ⟨h.box.below hb h.box.lt, h.low, h.reads.below hb, h.lt⟩
theorem DiskLow.past {B x : Nat} {u0 u1 ul : Value} (h : DiskLow B u0 u1 ul) (hx : B ≤ x) : ¬ DTurns u0 u1 ul x := by
  rintro (e | e | e)
  · have := h.l0 x e; omega
  · have := h.l1 x e; omega
  · have := h.ll x e; omega
theorem boxed_new {w : World} {v0 v1 vl : Value} {d : DiskM} (h : DiskR w v0 v1 vl d) (e : Nat) : Boxed (w.alloc (.cells #[v0, v1, vl] e)) w.heap.size w.heap.size v0 v1 vl d :=
  ⟨box_new _ _ _, h.low, h.below ((Below.refl _ _).alloc (Nat.le_refl _) _), Nat.le_refl _⟩
theorem Below.new {w : World} (o : Obj) : Below w.heap.size w (w.alloc o) := (Below.refl _ _).alloc (Nat.le_refl _) _

end Go.Proofs.YtgjlhokakcdpbaaDoor
