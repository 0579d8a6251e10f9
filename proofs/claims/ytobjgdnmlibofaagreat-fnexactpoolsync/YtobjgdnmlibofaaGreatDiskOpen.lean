/-
  spec's DiskOpen.
-/
import Derived.Test.YtobjgdnmlibofaaGreatDiskOk
set_option maxRecDepth 100000
namespace Go.Proofs.YtobjgdnmlibofaaGreat
open Go.ChangeShapes Go.WideShapes Go.ChangeAt Go.RowKit Go.Proofs.Palim

def noDisk : DiskM := ⟨[], [], []⟩
def openM (n : Int) : DiskM := if n < 1 ∨ n > 120 then noDisk else ⟨List.replicate n.toNat ⟨#[]⟩, List.replicate n.toNat ⟨#[]⟩, []⟩

theorem noDisk_own (w : World) (base : Nat) : DiskOwn w base (.slice none 0 0) (.slice none 0 0) (.slice none 0 0) noDisk :=
  ⟨⟨rfl, .inl ⟨rfl, rfl⟩⟩, ⟨rfl, .inl ⟨rfl, rfl⟩⟩, ⟨rfl, .inl ⟨rfl, rfl⟩⟩, fun _ e => by simp [Value.ownBlock] at e, fun _ e => by simp [Value.ownBlock] at e, fun _ e => by simp [Value.ownBlock] at e⟩

/-- A new slice of n empty strings. -/
theorem makeStrs (n : Nat) (hn : n ≤ 1048576) (w : World) :
    (Instr.makeSlice 22 (.int .i64 (n : Int)) (.int .i64 (n : Int))).run Tryz.prog w = .ok (.slice (some ⟨w.heap.size, 0, none⟩) n n) (w.alloc (.cells (madeCells #[.string ⟨#[]⟩] n) 9)) := by
  obtain ⟨i0, hi, hz0, hz1, hz2⟩ := info_parts infoStr
  have h := run_make (P := Tryz.prog) w 22 9 i0 _ Tryz.underlying22 hi hz0 .i64 .i64 n n (by omega) (by omega) (by rw [hz2]; omega) (by omega)
  simp only [Int.toNat_natCast, hz1, Nat.mul_one] at h
  exact h
theorem made_strs (n : Nat) : (madeCells #[Value.string ⟨#[]⟩] n).toList = scs (List.replicate n ⟨#[]⟩) := by
  apply List.ext_getElem
  · simp [madeCells, scs]
  · intro i h1 h2
    simp [madeCells, scs, Nat.mod_one]
theorem heap3 (w : World) (a b c : Obj) : (((w.alloc a).alloc b).alloc c).heap[w.heap.size + 1]? = some b ∧ (((w.alloc a).alloc b).alloc c).heap[w.heap.size + 1 + 1]? = some c := by
  constructor
  · rw [Below.heap_alloc _ _ _ (by simp)]
    have h : ((w.alloc a).heap.push b)[(w.alloc a).heap.size]? = some b := Array.getElem?_push_size
    rwa [show (w.alloc a).heap.size = w.heap.size + 1 by simp] at h
  · have h : (((w.alloc a).alloc b).heap.push c)[((w.alloc a).alloc b).heap.size]? = some c := Array.getElem?_push_size
    rwa [show ((w.alloc a).alloc b).heap.size = w.heap.size + 1 + 1 by simp] at h
theorem own_new {w : World} {base b e sz n : Nat} {c : Array Value} (h : w.heap[b]? = some (.cells c e (0, 0))) (hc : c.size = n * sz) (hn : n ≤ maxLen) (hb : base ≤ b) : w.ownsRow base e sz (.slice (some ⟨b, 0, none⟩) n n) n c.toList := by
  refine ⟨by simpa using hc, .inr ⟨b, n, c, rfl, hb, h, Nat.le_refl _, hn, by omega, ?_⟩⟩
  rw [List.take_of_length_le (by simp [hc])]
theorem own_made {w : World} {base b m : Nat} (h : w.heap[b]? = some (.cells (madeCells #[.string ⟨#[]⟩] m) 9 (0, 0))) (hn : m ≤ maxLen) (hb : base ≤ b) :
    w.ownsRow base 9 1 (.slice (some ⟨b, 0, none⟩) m m) (List.replicate m (⟨#[]⟩ : ByteArray)).length (scs (List.replicate m ⟨#[]⟩)) := by
  have h := own_new (sz := 1) h (by simp [size_madeCells]) hn hb
  rw [made_strs] at h
  rwa [List.length_replicate]

end Go.Proofs.YtobjgdnmlibofaaGreat
