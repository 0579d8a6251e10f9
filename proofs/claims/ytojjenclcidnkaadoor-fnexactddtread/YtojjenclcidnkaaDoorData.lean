/-
  Texts joined into one.
-/
import Derived.Test.YtojjenclcidnkaaDoorStrS
import Derived.WalkKit
import Derived.ProofKit
import Derived.Lib.Hide
import Derived.WalkSpells
import Derived.WalkSmall
import Derived.Laws.Pointers
import Derived.Test.YtojjenclcidnkaaDoorBox
import Derived.Test.YtojjenclcidnkaaDoorFresh
import Derived.Lib.SliceRun

/-
  The laws' own helpers on lists of late writes.
-/
set_option maxRecDepth 100000
namespace Go.Proofs.YtojjenclcidnkaaDoor
open Go.ChangeShapes Go.WideShapes Go.ChangeAt Go.RowKit Go.Proofs.Palim

/-- A late write, as plain data. -/
structure LateM where
  side : Int
  at_ : Int
  text : ByteArray
def lc (x : LateM) : List Value := [.int .i64 x.side, .int .i64 x.at_, .string x.text]
def lcs (ls : List LateM) : List Value := ls.flatMap lc
theorem lcs_length (ls : List LateM) : (lcs ls).length = ls.length * 3 := by
  induction ls with
  | nil => rfl
  | cons x ls ih => simp [lcs, lc] at ih ⊢; omega
theorem lcs_snoc (a : List LateM) (x : LateM) : lcs (a ++ [x]) = lcs a ++ lc x := by simp [lcs]
theorem lcs_at (ls : List LateM) : ∀ (k : Nat) (h : k < ls.length), (lcs ls)[k * 3]? = some (.int .i64 ls[k].side) ∧ (lcs ls)[k * 3 + 1]? = some (.int .i64 ls[k].at_) ∧ (lcs ls)[k * 3 + 2]? = some (.string ls[k].text) := by
  induction ls with
  | nil => intro k h; simp at h
  | cons x ls ih =>
    intro k h
    have e : lcs (x :: ls) = [.int .i64 x.side, .int .i64 x.at_, .string x.text] ++ lcs ls := by simp [lcs, lc]
    cases k with
    | zero => rw [e]; exact ⟨rfl, rfl, rfl⟩
    | succ k =>
      have := ih k (by simpa using h)
      rw [e, show (k + 1) * 3 = k * 3 + 3 by omega]
      rw [List.getElem?_append_right (by simp), List.getElem?_append_right (by simp <;> omega), List.getElem?_append_right (by simp <;> omega)]
      simp only [List.length_cons, List.length_nil, List.getElem_cons_succ]
      rw [show k * 3 + 3 - (0 + 1 + 1 + 1) = k * 3 by omega, show k * 3 + 3 + 1 - (0 + 1 + 1 + 1) = k * 3 + 1 by omega, show k * 3 + 3 + 2 - (0 + 1 + 1 + 1) = k * 3 + 2 by omega]
      exact this
theorem late_read {w : World} {ls : List LateM} {b off : Nat} (hc : ∀ j u, (lcs ls)[j]? = some u → w.cell? ⟨b, off + j, none⟩ = some u) (k : Nat) (h : k < ls.length) :
    w.cell? ⟨b, off + k * 3, none⟩ = some (.int .i64 ls[k].side) ∧ w.cell? ⟨b, off + k * 3 + 1, none⟩ = some (.int .i64 ls[k].at_) ∧ w.cell? ⟨b, off + k * 3 + 2, none⟩ = some (.string ls[k].text) := by
  have hat := lcs_at ls k h
  exact ⟨hc _ _ hat.1, by rw [Nat.add_assoc]; exact hc _ _ hat.2.1, by rw [Nat.add_assoc]; exact hc _ _ hat.2.2⟩
/-- As a value. -/
def lv (x : LateM) : Value := .agg #[.int .i64 x.side, .int .i64 x.at_, .string x.text]

end Go.Proofs.YtojjenclcidnkaaDoor

/-
  Lists of late writes marked, and asked for the marks.
-/
set_option maxRecDepth 100000
namespace Go.Proofs.YtojjenclcidnkaaDoor
open Go.ChangeShapes Go.WideShapes Go.ChangeAt Go.RowKit Go.Proofs.Palim

/-- The marks of late writes from k on. -/
def lmarks (k n : Nat) : List LateM := (List.range n).map fun i => ⟨((k + 3 * i : Nat) : Int), ((k + 3 * i + 1 : Nat) : Int), mkText (k + 3 * i + 2)⟩
theorem lmarks_length (k n : Nat) : (lmarks k n).length = n := by simp [lmarks]
theorem lmarks_succ (k n : Nat) : lmarks k (n + 1) = lmarks k n ++ [⟨((k + 3 * n : Nat) : Int), ((k + 3 * n + 1 : Nat) : Int), mkText (k + 3 * n + 2)⟩] := by simp [lmarks, List.range_succ]
theorem lmarks_at (k n i : Nat) (h' : i < (lmarks k n).length) : (lmarks k n)[i] = ⟨((k + 3 * i : Nat) : Int), ((k + 3 * i + 1 : Nat) : Int), mkText (k + 3 * i + 2)⟩ := by simp [lmarks]

end Go.Proofs.YtojjenclcidnkaaDoor

/-
  Pairs of lists of strings: the laws' helpers.
-/
set_option maxRecDepth 100000
namespace Go.Proofs.YtojjenclcidnkaaDoor
open Go.ChangeShapes Go.WideShapes Go.ChangeAt Go.RowKit Go.Proofs.Palim

def NewPair (w : World) (s0 s1 : List ByteArray) (e : Ending) (w' : World) : Prop :=
  ∃ u0 u1, e = .returned (.agg #[u0, u1]) ∧ w'.ownsRow w.heap.size 9 1 u0 s0.length (scs s0) ∧ w'.ownsRow w.heap.size 9 1 u1 s1.length (scs s1) ∧ Apart u0 u1 ∧ Below w.heap.size w w'

end Go.Proofs.YtojjenclcidnkaaDoor

/-
  Pairs of lists of strings: marked, and asked for marks.
-/
set_option maxRecDepth 100000
namespace Go.Proofs.YtojjenclcidnkaaDoor
open Go.ChangeShapes Go.WideShapes Go.ChangeAt Go.RowKit Go.Proofs.Palim

def MarkedPair (k : Nat) (v0 v1 : Value) (base n0 n1 : Nat) (w : World) (e : Ending) (w' : World) : Prop :=
  e = .returned (.int .i64 ((k + n0 + n1 : Nat) : Int)) ∧ w'.ownsRow base 9 1 v0 n0 (scs (marks k n0)) ∧ w'.ownsRow base 9 1 v1 n1 (scs (marks (k + n0) n1)) ∧ Turned (fun b => v0.ownBlock = some b ∨ v1.ownBlock = some b) w w'

end Go.Proofs.YtojjenclcidnkaaDoor

/-
  Disks as values: what they read as, which of them a call owns, and the laws' helpers on them.
-/
set_option maxRecDepth 100000
namespace Go.Proofs.YtojjenclcidnkaaDoor
open Go.ChangeShapes Go.WideShapes Go.ChangeAt Go.RowKit Go.Proofs.Palim

structure DiskM where
  s0 : List ByteArray
  s1 : List ByteArray
  late : List LateM

/-- The block of a value lies below B. -/
def Low (B : Nat) (v : Value) : Prop := ∀ b, v.ownBlock = some b → b < B
theorem Low.mono {B B' : Nat} {v : Value} (h : Low B v) (hB : B ≤ B') : Low B' v := fun b e => Nat.lt_of_lt_of_le (h b e) hB
theorem low_of_own {w : World} {base e sz n : Nat} {v : Value} {xs : List Value} (h : w.ownsRow base e sz v n xs) : Low w.heap.size v := fun b e => (h.lt b e).2

/-- Three slices that read as a disk. -/
structure DiskR (w : World) (v0 v1 vl : Value) (d : DiskM) : Prop where
  r0 : Sl w 1 v0 d.s0.length (scs d.s0)
  r1 : Sl w 1 v1 d.s1.length (scs d.s1)
  rl : Sl w 3 vl d.late.length (lcs d.late)
  l0 : Low w.heap.size v0
  l1 : Low w.heap.size v1
  ll : Low w.heap.size vl
theorem DiskR.below {w w' : World} {v0 v1 vl : Value} {d : DiskM} (h : DiskR w v0 v1 vl d) (hb : Below w.heap.size w w') : DiskR w' v0 v1 vl d :=
  ⟨h.r0.below hb h.l0, h.r1.below hb h.l1, h.rl.below hb h.ll, h.l0.mono hb.size, h.l1.mono hb.size, h.ll.mono hb.size⟩
/-- Short enough for the laws. -/
structure DiskShort (d : DiskM) : Prop where
  n0 : d.s0.length ≤ 1048576
  n1 : d.s1.length ≤ 1048576
  nl : d.late.length ≤ 1048576
  z0 : ∀ s ∈ d.s0, s.size ≤ 1048576
  z1 : ∀ s ∈ d.s1, s.size ≤ 1048576
  zl : ∀ x ∈ d.late, x.text.size ≤ 1048576

theorem own4 {w : World} {base e sz n : Nat} {v : Value} {xs : List Value} (h : w.ownsRow base e sz v n xs) {a b c d : Addr} {x y z u : Value} (ha : a.block < base) (hb : b.block < base) (hc : c.block < base) (hd : d.block < base) :
    ((((w.setCell a x).setCell b y).setCell c z).setCell d u).ownsRow base e sz v n xs :=
  ownsRow_setCell_below (ownsRow_setCell_below (ownsRow_setCell_below (ownsRow_setCell_below h ha _) hb _) hc _) hd _

end Go.Proofs.YtojjenclcidnkaaDoor

/-
  Disks compared, sized, marked, asked for marks.
-/
set_option maxRecDepth 100000
namespace Go.Proofs.YtojjenclcidnkaaDoor
open Go.ChangeShapes Go.WideShapes Go.ChangeAt Go.RowKit Go.Proofs.Palim

def dsz (d : DiskM) : Nat := d.s0.length + tot d.s0 + (d.s1.length + tot d.s1) + (d.late.length + tot (d.late.map (·.text)))

/-- The disk of marks from k on. -/
def dmarks (k n0 n1 nl : Nat) : DiskM := ⟨marks k n0, marks (k + n0) n1, lmarks (k + n0 + n1) nl⟩
def DTurns (v0 v1 vl : Value) (b : Nat) : Prop := v0.ownBlock = some b ∨ v1.ownBlock = some b ∨ vl.ownBlock = some b
end Go.Proofs.YtojjenclcidnkaaDoor

/-
  Which disks are valid: spec's DiskOk.
-/
set_option maxRecDepth 100000
namespace Go.Proofs.YtojjenclcidnkaaDoor
open Go.ChangeShapes Go.WideShapes Go.ChangeAt Go.RowKit Go.Proofs.Palim

/-- There is such a sector, and the text fits. -/
def There (n : Nat) (side at_ : Int) (size : Nat) : Prop := 0 ≤ side ∧ side ≤ 1 ∧ 0 ≤ at_ ∧ at_ < n ∧ size ≤ 420
instance (n : Nat) (side at_ : Int) (size : Nat) : Decidable (There n side at_ size) := by unfold There; infer_instance

theorem ret_bool {a b : Bool} (h : a = b) : Ending.returned (.bool a) = Ending.returned (.bool b) := by rw [h]

theorem dec_eq {a b : Bool} (h : a = true ↔ b = true) : a = b := by cases a <;> cases b <;> simp_all

def DiskOkM (d : DiskM) : Prop := 1 ≤ d.s0.length ∧ d.s0.length ≤ 120 ∧ d.s1.length = d.s0.length ∧ d.late.length ≤ 600 ∧ (∀ s ∈ d.s0, s.size ≤ 420) ∧ (∀ s ∈ d.s1, s.size ≤ 420) ∧ ∀ x ∈ d.late, There d.s0.length x.side x.at_ x.text.size
instance (d : DiskM) : Decidable (DiskOkM d) := by unfold DiskOkM; infer_instance

end Go.Proofs.YtojjenclcidnkaaDoor

/-
  spec's DiskOpen.
-/
set_option maxRecDepth 100000
namespace Go.Proofs.YtojjenclcidnkaaDoor
open Go.ChangeShapes Go.WideShapes Go.ChangeAt Go.RowKit Go.Proofs.Palim

def noDisk : DiskM := ⟨[], [], []⟩
def openM (n : Int) : DiskM := if n < 1 ∨ n > 120 then noDisk else ⟨List.replicate n.toNat ⟨#[]⟩, List.replicate n.toNat ⟨#[]⟩, []⟩

/-- A new slice of n empty strings. -/
theorem makeStrs (n : Nat) (hn : n ≤ 1048576) (w : World) :
    (Instr.makeSlice 28 (.int .i64 (n : Int)) (.int .i64 (n : Int))).run Tryd.prog w = .ok (.slice (some ⟨w.heap.size, 0, none⟩) n n) (w.alloc (.cells (madeCells #[.string ⟨#[]⟩] n) 9)) := by
  obtain ⟨i0, hi, hz0, hz1, hz2⟩ := info_parts infoStr
  have h := run_make (P := Tryd.prog) w 28 9 i0 _ Tryd.underlying28 hi hz0 .i64 .i64 n n (by omega) (by omega) (by rw [hz2]; omega) (by omega)
  simp only [Int.toNat_natCast, hz1, Nat.mul_one] at h
  exact h
theorem made_strs (n : Nat) : (madeCells #[Value.string ⟨#[]⟩] n).toList = scs (List.replicate n ⟨#[]⟩) := by
  apply List.ext_getElem
  · simp [madeCells, scs]
  · intro i h1 h2
    simp [madeCells, scs, Nat.mod_one]
theorem heap3 (w : World) (a b c : Obj) : (((w.alloc a).alloc b).alloc c).heap[w.heap.size + 1]? = some b ∧ (((w.alloc a).alloc b).alloc c).heap[w.heap.size + 1 + 1]? = some c := by
  constructor
  · rw [Below.heap_alloc _ _ _ (by simp)]
    have h : ((w.alloc a).heap.push b)[(w.alloc a).heap.size]? = some b := Array.getElem?_push_size
    rwa [show (w.alloc a).heap.size = w.heap.size + 1 by simp] at h
  · have h : (((w.alloc a).alloc b).heap.push c)[((w.alloc a).alloc b).heap.size]? = some c := Array.getElem?_push_size
    rwa [show ((w.alloc a).alloc b).heap.size = w.heap.size + 1 + 1 by simp] at h
theorem own_new {w : World} {base b e sz n : Nat} {c : Array Value} (h : w.heap[b]? = some (.cells c e (0, 0))) (hc : c.size = n * sz) (hn : n ≤ maxLen) (hb : base ≤ b) : w.ownsRow base e sz (.slice (some ⟨b, 0, none⟩) n n) n c.toList := by
  refine ⟨by simpa using hc, .inr ⟨b, n, c, rfl, hb, h, Nat.le_refl _, hn, by omega, ?_⟩⟩
  rw [List.take_of_length_le (by simp [hc])]
theorem own_made {w : World} {base b m : Nat} (h : w.heap[b]? = some (.cells (madeCells #[.string ⟨#[]⟩] m) 9 (0, 0))) (hn : m ≤ maxLen) (hb : base ≤ b) :
    w.ownsRow base 9 1 (.slice (some ⟨b, 0, none⟩) m m) (List.replicate m (⟨#[]⟩ : ByteArray)).length (scs (List.replicate m ⟨#[]⟩)) := by
  have h := own_new (sz := 1) h (by simp [size_madeCells]) hn hb
  rw [made_strs] at h
  rwa [List.length_replicate]

end Go.Proofs.YtojjenclcidnkaaDoor

/-
  What the laws on disks have in common.
-/
set_option maxRecDepth 100000
namespace Go.Proofs.YtojjenclcidnkaaDoor
open Go.ChangeShapes Go.WideShapes Go.ChangeAt Go.RowKit Go.Proofs.Palim

/-- The blocks of a disk lie below B. -/
structure DiskLow (B : Nat) (v0 v1 vl : Value) : Prop where
  l0 : Low B v0
  l1 : Low B v1
  ll : Low B vl
theorem DiskLow.mono {B B' : Nat} {v0 v1 vl : Value} (h : DiskLow B v0 v1 vl) (hB : B ≤ B') : DiskLow B' v0 v1 vl := ⟨h.l0.mono hB, h.l1.mono hB, h.ll.mono hB⟩
theorem DiskR.low {w : World} {v0 v1 vl : Value} {d : DiskM} (h : DiskR w v0 v1 vl d) : DiskLow w.heap.size v0 v1 vl := ⟨h.l0, h.l1, h.ll⟩
theorem short_no : DiskShort noDisk := ⟨by simp [noDisk], by simp [noDisk], by simp [noDisk], by simp [noDisk], by simp [noDisk], by simp [noDisk]⟩
theorem short_open (n : Int) : DiskShort (openM n) := by
  unfold openM
  split
  · exact short_no
  · refine ⟨by simp; omega, by simp; omega, by simp, ?_, ?_, by simp⟩
    all_goals
      intro s hs
      rw [List.eq_of_mem_replicate hs]
      exact Nat.zero_le _

/-- The count of marks of a disk, from k on. -/
def dmend (k : Nat) (d : DiskM) : Nat := k + d.s0.length + d.s1.length + 3 * d.late.length
theorem dmend_small {d : DiskM} (hs : DiskShort d) {k : Nat} (hk : k ≤ 80000000) : dmend k d ≤ 90000000 := by have := hs.n0; have := hs.n1; have := hs.nl; unfold dmend; omega
/-- A disk in a box of its own: what the law's variables are. -/
structure Boxed (w : World) (x B : Nat) (v0 v1 vl : Value) (d : DiskM) : Prop where
  box : Box w x [v0, v1, vl]
  low : DiskLow B v0 v1 vl
  reads : DiskR w v0 v1 vl d
  lt : B ≤ x
theorem Boxed.below {w w' : World} {x B : Nat} {v0 v1 vl : Value} {d : DiskM} (h : Boxed w x B v0 v1 vl d) (hb : Below w.heap.size w w') : Boxed w' x B v0 v1 vl d := ⟨h.box.below hb h.box.lt, h.low, h.reads.below hb, h.lt⟩
theorem DiskLow.past {B x : Nat} {u0 u1 ul : Value} (h : DiskLow B u0 u1 ul) (hx : B ≤ x) : ¬ DTurns u0 u1 ul x := by
  rintro (e | e | e)
  · have := h.l0 x e; omega
  · have := h.l1 x e; omega
  · have := h.ll x e; omega
theorem boxed_new {w : World} {v0 v1 vl : Value} {d : DiskM} (h : DiskR w v0 v1 vl d) (e : Nat) : Boxed (w.alloc (.cells #[v0, v1, vl] e)) w.heap.size w.heap.size v0 v1 vl d :=
  ⟨box_new _ _ _, h.low, h.below ((Below.refl _ _).alloc (Nat.le_refl _) _), Nat.le_refl _⟩
theorem Below.new {w : World} (o : Obj) : Below w.heap.size w (w.alloc o) := (Below.refl _ _).alloc (Nat.le_refl _) _

end Go.Proofs.YtojjenclcidnkaaDoor

/-
  spec's l2Copy: a disk in new memory.
-/
set_option maxRecDepth 100000
namespace Go.Proofs.YtojjenclcidnkaaDoor
open Go.ChangeShapes Go.WideShapes Go.ChangeAt Go.RowKit Go.Proofs.Palim

/-- What stays so while l2Copy's one region runs. -/
structure Reg (w : World) (v0 v1 vl : Value) (w' : World) : Prop where
  below : Below w.heap.size w w'
  box : Box w' w.heap.size [v0, v1, vl]
theorem Reg.drew {w w' : World} {v0 v1 vl : Value} (h : Reg w v0 v1 vl w') : Reg w v0 v1 vl w'.drew := ⟨h.below.drew, h.box⟩
theorem Reg.alloc {w w' : World} {v0 v1 vl : Value} (h : Reg w v0 v1 vl w') (o : Obj) : Reg w v0 v1 vl (w'.alloc o) := ⟨h.below.alloc h.below.size o, h.box.alloc o⟩
theorem Reg.setCell {w w' : World} {v0 v1 vl : Value} (h : Reg w v0 v1 vl w') (k : Nat) (u : Value) : Reg w v0 v1 vl (w'.setCell ⟨w.heap.size + 1, k, none⟩ u) := ⟨h.below.setCell (by simp) u, h.box.other (by simp) u⟩
theorem Reg.grown {w w' w2 : World} {v0 v1 vl : Value} {row : Option Nat} (h : Reg w v0 v1 vl w') (hg : w'.grownBy w2 row) (hr : ∀ g, row = some g → w.heap.size + 2 ≤ g) : Reg w v0 v1 vl w2 :=
  ⟨h.below.grown hg h.below.size (fun k e => by have := hr k e; omega), h.box.kept (hg.block _ h.box.lt (fun e => by have := hr _ e.symm; omega))⟩
theorem box_grown {w' w2 : World} {b B : Nat} {vs : List Value} {row : Option Nat} (h : Box w' b vs) (hg : w'.grownBy w2 row) (hr : ∀ g, row = some g → B ≤ g) (hb : b < B) : Box w2 b vs :=
  h.kept (hg.block _ h.lt (fun e => by have := hr _ e.symm; omega))
theorem Reg.all {w w' : World} {v0 v1 vl : Value} (h : Reg w v0 v1 vl w') : w'.cell? ⟨w.heap.size, 0, none⟩ = some v0 ∧ w'.cell? ⟨w.heap.size, 1, none⟩ = some v1 ∧ w'.cell? ⟨w.heap.size, 2, none⟩ = some vl ∧ Reg w v0 v1 vl w' := ⟨h.box.cell 0 rfl, h.box.cell 1 rfl, h.box.cell 2 rfl, h⟩

/-- Block g is empty, of elements e. -/
def At (w : World) (g e : Nat) : Prop := w.heap[g]? = some (.cells #[] e)
theorem At.drew {w : World} {g e : Nat} (h : At w g e) : At w.drew g e := h
theorem At.lt {w : World} {g e : Nat} (h : At w g e) : g < w.heap.size := (Array.getElem?_eq_some_iff.1 h).1
theorem At.alloc {w : World} {g e : Nat} (h : At w g e) (o : Obj) : At (w.alloc o) g e := (Below.heap_alloc w o g h.lt).trans h
theorem At.new {w : World} {g e : Nat} (h : w.heap.size = g) : At (w.alloc (.cells #[] e)) g e := by
  subst h
  show (w.heap.push _)[w.heap.size]? = _
  exact Array.getElem?_push_size
theorem At.grown {w w2 : World} {g g' e : Nat} (h : At w g e) (hk : ∀ k, k < w.heap.size → k ≠ g' → w2.heap[k]? = w.heap[k]?) (hne : g ≠ g') : At w2 g e := (hk g h.lt hne).trans h

theorem own_empty {w : World} {base e sz g : Nat} (h : At w g e) (hb : base ≤ g) : w.ownsRow base e sz (.slice (some ⟨g, 0, none⟩) 0 0) 0 [] := by
  simpa using own_new (sz := sz) (n := 0) h (by simp) (Nat.zero_le _) hb
theorem scs_one (ss : List ByteArray) : ∀ u ∈ scs ss, u.oneCell' = true := by
  intro u hu
  obtain ⟨s, _, rfl⟩ := List.mem_map.1 hu
  rfl
theorem lcs_one (ls : List LateM) : ∀ u ∈ lcs ls, u.oneCell' = true := by
  intro u hu
  obtain ⟨l, _, h⟩ := List.mem_flatMap.1 hu
  simp [lc] at h
  rcases h with rfl | rfl | rfl <;> rfl

/-- The block of an answer of append: the old one, or the one that is made now. -/
theorem loc {A : Option Addr} {n cap g s b : Nat} (ha : (Value.slice A n cap).ownBlock = (Value.slice (some ⟨g, 0, none⟩) 0 0).ownBlock ∨ (Value.slice A n cap).ownBlock = some s) (e : (Value.slice A n cap).ownBlock = some b) : b = g ∨ b = s := by
  rcases ha with h | h
  · left; rw [e] at h; simpa [Value.ownBlock] using h
  · right; rw [e] at h; simpa using h
theorem grown_from {w1 W w2 : World} {g : Nat} (hW : Below w1.heap.size w1 W) (hg : W.grownBy w2 (Value.slice (some ⟨g, 0, none⟩) 0 0).ownBlock) : (∀ b, b < w1.heap.size → b ≠ g → w2.heap[b]? = w1.heap[b]?) ∧ W.heap.size ≤ w2.heap.size ∧ w1.heap.size ≤ W.heap.size :=
  ⟨fun b hb hne => (hg.block b (Nat.lt_of_lt_of_le hb hW.size) (fun e => hne (by simpa [Value.ownBlock] using e))).trans (hW.block b hb), hg.size, hW.size⟩
theorem grown_kept {W w2 : World} {g : Nat} (hg : W.grownBy w2 (Value.slice (some ⟨g, 0, none⟩) 0 0).ownBlock) : ∀ k, k < W.heap.size → k ≠ g → w2.heap[k]? = W.heap[k]? :=
  fun k hk hne => hg.block k hk (fun e => hne (by simpa [Value.ownBlock] using e))

end Go.Proofs.YtojjenclcidnkaaDoor

/-
  impl's has and diskTakes: whether a sector is there, and whether a text fits into it.
-/
set_option maxRecDepth 100000
namespace Go.Proofs.YtojjenclcidnkaaDoor
open Go.ChangeShapes Go.WideShapes Go.ChangeAt Go.RowKit Go.Proofs.Palim

/-- There is such a sector. -/
def Has (n0 n1 : Nat) (side at_ : Int) : Prop := (side = 0 ∧ 0 ≤ at_ ∧ at_ < n0) ∨ (side = 1 ∧ 0 ≤ at_ ∧ at_ < n1)
instance (n0 n1 : Nat) (side at_ : Int) : Decidable (Has n0 n1 side at_) := by unfold Has; infer_instance
theorem has_there (n : Nat) (side at_ : Int) (size : Nat) : (Has n n side at_ ∧ size ≤ 420) ↔ There n side at_ size := by unfold Has There; omega

end Go.Proofs.YtojjenclcidnkaaDoor

/-
  slices.Clone at lists of strings and of late writes: the same cells in memory of the call's own.
-/
set_option maxRecDepth 100000
namespace Go.Proofs.Palim
open Go Go.RowKit
theorem wpList_append_fresh {P : Program} (w : World) {ops : Array Oper} {rest : List Oper} {o : Oper} {a : Act} {Q : Exit → Act → World → Prop} (hgd : o.guard = none) (s x : Operand) (t : TypeId)
    (ho : o.op = .call { callee := .builtin .append, args := #[s, x], argTypes := #[t, t] })
    (base : Nat) (e : TypeId) (i : TypeInfo) (z : Value) (size bytes : Nat) (ht : P.underlying t = some (.slice e)) (hi : P.info? e = some i) (hz : i.zero = some z)
    (hsize : i.size = size) (hby : i.bytes = bytes) (hzs : z.cells.size = size) (hsz : 0 < size)
    (v : Value) (n : Nat) (xs : List Value) (hs : a.eval s = v) (hown : w.ownsRow base e size v n xs)
    (u : Value) (m : Nat) (news : List Value) (hx : a.eval x = u) (hsl : Sl w size u m news) (h1 : ∀ u ∈ news, u.oneCell' = true)
    (h63 : n + m ≤ maxLen) (hbytes : (n + m) * bytes ≤ 140737488355328) (hbase : base ≤ w.heap.size)
    (h : ∀ A cap w', w'.ownsRow base e size (.slice A (n + m) cap) (n + m) (xs ++ news) → w.grownBy w' v.ownBlock → ((Value.slice A (n + m) cap).ownBlock = v.ownBlock ∨ (Value.slice A (n + m) cap).ownBlock = some w.heap.size) → wpList P ops Q rest (a.put o.dst (.slice A (n + m) cap)) w') : wpList P ops Q (o :: rest) a w :=
  wpList_plain hgd fun _ hK => wp_append_fresh w s x t ho base e i z size bytes ht hi hz hsize hby hzs hsz v n xs hs hown u m news hx hsl h1 h63 hbytes hbase fun A cap w' h2 h3 h4 => hK _ _ (h A cap w' h2 h3 h4)
end Go.Proofs.Palim
namespace Go.Proofs.YtojjenclcidnkaaDoor
open Go.ChangeShapes Go.WideShapes Go.ChangeAt Go.RowKit Go.Proofs.Palim

/-- A slice of the call's own with the same cells. -/
def Cloned (w : World) (e sz n : Nat) (xs : List Value) (en : Ending) (w' : World) : Prop := ∃ A c, en = .returned (.slice A n c) ∧ w'.ownsRow w.heap.size e sz (.slice A n c) n xs ∧ Below w.heap.size w w'

theorem clone_done {w w1 : World} {e sz n m cap cp : Nat} {A : Option Addr} {xs : List Value} (hown : w1.ownsRow w.heap.size e sz (.slice A n cap) n xs) (hg : (w.alloc (.cells #[] m)).grownBy w1 (Value.slice (some ⟨w.heap.size, 0, none⟩) 0 cp).ownBlock) :
    w1.ownsRow w.heap.size e sz (.slice A n cap) n xs ∧ Below w.heap.size w w1 := by
  exact ⟨hown, ((Below.refl _ w).alloc (Nat.le_refl _) _).grown hg (by simp) (by intro k hk; simp [Value.ownBlock] at hk; omega)⟩

end Go.Proofs.YtojjenclcidnkaaDoor
