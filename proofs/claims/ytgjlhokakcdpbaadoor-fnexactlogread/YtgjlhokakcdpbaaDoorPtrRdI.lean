/-
  Pointers read: impl's PtrRead.
-/
import Derived.Test.YtgjlhokakcdpbaaDoorPtrRd
import Derived.Lib.AtoiErrMem
set_option maxRecDepth 100000
namespace Go.Proofs.YtgjlhokakcdpbaaDoor
open Go.ChangeShapes Go.WideShapes Go.ChangeAt Go.RowKit Go.Proofs.Palim

/-- What the library's functions read of its variables. -/
structure LibVars (w : World) : Prop where
  pow : HasPow w
  mx : ∃ m, w.cell? ⟨0, 0, none⟩ = some (.int .i64 m)
  es : ∃ te pe, w.cell? ⟨2, 0, none⟩ = some (.iface te pe)
  er : ∃ te pe, w.cell? ⟨3, 0, none⟩ = some (.iface te pe)
theorem LibVars.below {w w' : World} (h : LibVars w) (hb : Below w.heap.size w w') : LibVars w' := by
  obtain ⟨h1, ⟨m, h2⟩, ⟨te, pe, h3⟩, ⟨te', pe', h4⟩⟩ := h
  exact ⟨h1.below hb h1.lt, ⟨m, (hb.cell (World.block_lt_of_cell? _ _ h2)).trans h2⟩, ⟨te, pe, (hb.cell (World.block_lt_of_cell? _ _ h3)).trans h3⟩, ⟨te', pe', (hb.cell (World.block_lt_of_cell? _ _ h4)).trans h4⟩⟩

def AtoiPost (s : ByteArray) (w : World) (e : Ending) (w' : World) : Prop :=
  Below w.heap.size w w' ∧ ((∃ n, Lib.atoiAll s.data.toList = .ok n ∧ e = .returned (.tuple #[.int .i64 n, .nilIface])) ∨ ((∀ n, Lib.atoiAll s.data.toList ≠ .ok n) ∧ ∃ n te pe, e = .returned (.tuple #[.int .i64 n, .iface te pe])))
theorem atoi_any (s : ByteArray) (w : World) (hs : s.size ≤ 1048576) (hv : LibVars w) : Calls Tryd.prog 50 #[.string s] w (AtoiPost s w) := by
  rcases h : Lib.atoiAll s.data.toList with v | _ | _
  · refine (Tryd.strconv_Atoi_ok s (by omega) v h w).mono ?_
    rintro e w' ⟨rfl, hw⟩
    refine ⟨?_, Or.inl ⟨v, h, rfl⟩⟩
    rcases hw with rfl | ⟨t, rfl⟩
    · exact Below.refl _ _
    · exact Lib.bytesWorld_below _ _ _
  · obtain ⟨te, pe, h3⟩ := hv.es
    refine (Tryd.strconv_Atoi_syntax s (by omega) h _ w h3 (Or.inr ⟨te, pe, rfl⟩)).mono ?_
    rintro e w' ⟨N, rfl, _, _, hb⟩
    exact ⟨hb, Or.inr ⟨fun n e => (by rw [h] at e; cases e), _, _, _, rfl⟩⟩
  · obtain ⟨te, pe, h3⟩ := hv.er
    refine (Tryd.strconv_Atoi_range s (by omega) h _ w h3 (Or.inr ⟨te, pe, rfl⟩)).mono ?_
    rintro e w' ⟨N, rfl, _, _, hb⟩
    exact ⟨hb, Or.inr ⟨fun n e => (by rw [h] at e; cases e), _, _, _, rfl⟩⟩
def CutP (s : ByteArray) (w : World) (e : Ending) (w' : World) : Prop :=
  ∃ a b c, e = .returned (.tuple #[.string a, .string b, .bool c]) ∧ a.data.toList = (Lib.cut s.data.toList [46]).1 ∧ b.data.toList = (Lib.cut s.data.toList [46]).2.1 ∧ a.size ≤ s.size ∧ b.size ≤ s.size ∧ Below w.heap.size w w'
theorem cut_len (l : List UInt8) : (Lib.cut l [46]).1.length ≤ l.length ∧ (Lib.cut l [46]).2.1.length ≤ l.length := by
  unfold Lib.cut
  split
  · simp; omega
  · simp
theorem cutP_any (s : ByteArray) (w : World) (hs : s.size ≤ 1048576) (hv : LibVars w) : Calls Tryd.prog 49 #[.string s, .string ⟨#[46]⟩] w (CutP s w) := by
  obtain ⟨m, hm⟩ := hv.mx
  refine (Tryd.strings_Cut s ⟨#[46]⟩ m w (by omega) hm).mono ?_
  rintro e w1 ⟨he, n, rfl⟩
  have hl := cut_len s.data.toList
  refine ⟨_, _, _, he, by simp, by simp, ?_, ?_, ⟨rfl, rfl, rfl, Nat.le_refl _, fun _ _ => rfl⟩⟩
  · rw [size_list, size_list]; simpa using hl.1
  · rw [size_list, size_list]; simpa using hl.2
theorem parse_bad {l : List UInt8} {a b c : ByteArray} (ha : a.data.toList = (Lib.cut l [46]).1) (hb : b.data.toList = (Lib.cut (Lib.cut l [46]).2.1 [46]).1) (hc : c.data.toList = (Lib.cut (Lib.cut l [46]).2.1 [46]).2.1)
    (h : (∀ n, Lib.atoiAll a.data.toList ≠ .ok n) ∨ (∀ n, Lib.atoiAll b.data.toList ≠ .ok n) ∨ (∀ n, Lib.atoiAll c.data.toList ≠ .ok n)) : parseL l = none := by
  unfold parseL
  rw [← ha, ← hb, ← hc]
  split
  · rename_i x y z h1 h2 h3
    rcases h with h | h | h
    · exact absurd h1 (h _)
    · exact absurd h2 (h _)
    · exact absurd h3 (h _)
  · rfl
theorem parse_ok {l : List UInt8} {a b c : ByteArray} {x y z : Int} (ha : a.data.toList = (Lib.cut l [46]).1) (hb : b.data.toList = (Lib.cut (Lib.cut l [46]).2.1 [46]).1) (hc : c.data.toList = (Lib.cut (Lib.cut l [46]).2.1 [46]).2.1)
    (h1 : Lib.atoiAll a.data.toList = .ok x) (h2 : Lib.atoiAll b.data.toList = .ok y) (h3 : Lib.atoiAll c.data.toList = .ok z) : parseL l = some ⟨x, y, z⟩ := by
  unfold parseL
  rw [← ha, ← hb, ← hc, h1, h2, h3]
theorem read_bad {t : ByteArray} (hn : t ≠ ⟨#[45]⟩) (h : parseL t.data.toList = none) : readM t = none := readM_none hn (fun p hp e => by
  have := parse_good hp
  rw [← e, h] at this
  cases this)

def NumPost (t : ByteArray) (w : World) (e : Ending) (w' : World) : Prop :=
  Below w.heap.size w w' ∧ ((∃ p : PtrM, parseL t.data.toList = some p ∧ e = .returned (.tuple #[pv p, .bool true])) ∨ (parseL t.data.toList = none ∧ e = .returned (.tuple #[.agg #[.int .i64 0, .int .i64 0, .int .i64 0], .bool false])))
end Go.Proofs.YtgjlhokakcdpbaaDoor
