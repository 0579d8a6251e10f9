/-
  spec's DiskOpen.
-/
import Derived.Test.YtkbdiinmicedfaaDoorDiskOk
namespace Go.Proofs.YtkbdiinmicedfaaDoor
open Go.ChangeShapes Go.WideShapes Go.ChangeAt Go.RowKit Go.Proofs.Palim

def noDisk : DiskM := ⟨[], [], []⟩
def openM (n : Int) : DiskM := if n < 1 ∨ n > 120 then noDisk else ⟨List.replicate n.toNat ⟨#[]⟩, List.replicate n.toNat ⟨#[]⟩, []⟩

theorem noDisk_own (w : World) (base : Nat) : DiskOwn w base (.slice none 0 0) (.slice none 0 0) (.slice none 0 0) noDisk :=
  ⟨⟨rfl, .inl ⟨rfl, rfl⟩⟩, ⟨rfl, .inl ⟨rfl, rfl⟩⟩, ⟨rfl, .inl ⟨rfl, rfl⟩⟩, fun _ e => by simp [Value.ownBlock] at e, fun _ e => by simp [Value.ownBlock] at e, fun _ e => by simp [Value.ownBlock] at e⟩

/-- A new slice of n empty strings. -/
theorem makeStrs (n : Nat) (hn : n ≤ 1048576) (w : World) :
    (Instr.makeSlice 69 (.int .i64 (n : Int)) (.int .i64 (n : Int))).run Tryd.prog w = .ok (.slice (some ⟨w.heap.size, 0, none⟩) n n) (w.alloc (.cells (madeCells #[.string ⟨#[]⟩] n) 9)) := by
  obtain ⟨i0, hi, hz0, hz1, hz2⟩ := info_parts infoStr
  have h := run_make (P := Tryd.prog) w 69 9 i0 _ Tryd.underlying69 hi hz0 .i64 .i64 n n (by omega) (by omega) (by rw [hz2]; omega) (by omega)
  simp only [Int.toNat_natCast, hz1, Nat.mul_one] at h
  exact h
theorem made_strs (n : Nat) : (madeCells #[Value.string ⟨#[]⟩] n).toList = scs (List.replicate n ⟨#[]⟩) := by
  apply List.ext_getElem
  · simp [madeCells, scs]
  · intro i h1 h2
    simp [madeCells, scs, Nat.mod_one]
theorem heap3 (w : World) (a b c : Obj) : (((w.alloc a).alloc b).alloc c).heap[w.heap.size + 1]? = some b ∧ (((w.alloc a).alloc b).alloc c).heap[w.heap.size + 1 + 1]? = some c := by
  constructor
  · rw [Below.heap_alloc _ _ _ (by simp)]
    have h : ((w.alloc a).heap.push b)[(w.alloc a).heap.size]? = some b := Array.getElem?_push_size
    rwa [show (w.alloc a).heap.size = w.heap.size + 1 by simp] at h
  · have h : (((w.alloc a).alloc b).heap.push c)[((w.alloc a).alloc b).heap.size]? = some c := Array.getElem?_push_size
    rwa [show ((w.alloc a).alloc b).heap.size = w.heap.size + 1 + 1 by simp] at h
theorem own_new {w : World} {base b e sz n : Nat} {c : Array Value} (h : w.heap[b]? = some (.cells c e (0, 0))) (hc : c.size = n * sz) (hn : n ≤ maxLen) (hb : base ≤ b) : w.ownsRow base e sz (.slice (some ⟨b, 0, none⟩) n n) n c.toList := by
  refine ⟨by simpa using hc, .inr ⟨b, n, c, rfl, hb, h, Nat.le_refl _, hn, by omega, ?_⟩⟩
  rw [List.take_of_length_le (by simp [hc])]
theorem own_made {w : World} {base b m : Nat} (h : w.heap[b]? = some (.cells (madeCells #[.string ⟨#[]⟩] m) 9 (0, 0))) (hn : m ≤ maxLen) (hb : base ≤ b) :
    w.ownsRow base 9 1 (.slice (some ⟨b, 0, none⟩) m m) (List.replicate m (⟨#[]⟩ : ByteArray)).length (scs (List.replicate m ⟨#[]⟩)) := by
  have h := own_new (sz := 1) h (by simp [size_madeCells]) hn hb
  rw [made_strs] at h
  rwa [List.length_replicate]

set_option maxHeartbeats 400000 in
theorem DiskOpen_any (n : Int) (w : World) (h0 : -9223372036854775808 ≤ n) (h1 : n ≤ 9223372036854775807) :
    Calls Tryd.prog 105 #[.int .i64 n] w (NewDisk w (openM n)) := by
  by_cases hn : n < 1 ∨ n > 120
  · have HM := Lib.hid (show openM n = noDisk from if_pos hn)
    rw [HM.out]
    have hn' : n < 1 ∨ (1 ≤ n ∧ 120 < n) := by omega
    clear hn
    rcases hn' with k1 | ⟨k1, k2⟩
    all_goals
      go_enter Tryd.func105, Tryd.ntmps105
      go_wp2
      refine bodyPost_ret (v := .agg #[.slice none 0 0, .slice none 0 0, .slice none 0 0]) (by simp [results, Tryd.results105, go_sem]) rfl ⟨_, _, _, rfl, noDisk_own _ _, (Below.refl _ _).alloc (Nat.le_refl _) _⟩
  · have HM := Lib.hid (show openM n = ⟨List.replicate n.toNat ⟨#[]⟩, List.replicate n.toNat ⟨#[]⟩, []⟩ from if_neg hn)
    rw [HM.out]
    obtain ⟨m, rfl⟩ : ∃ m : Nat, n = m := ⟨n.toNat, by omega⟩
    have k1 : 1 ≤ m := by omega
    have k2 : m ≤ 120 := by omega
    clear hn h0 h1 HM
    have hmk := makeStrs m (by omega)
    go_enter Tryd.func105, Tryd.ntmps105
    go_wp2_with fail
    go_region_held3 (fun _ => True) (exact trivial) (fail)
    · go_wp2
      refine bodyPost_ret (v := .agg #[.slice (some ⟨w.heap.size + 1, 0, none⟩) m m, .slice (some ⟨w.heap.size + 1 + 1, 0, none⟩) m m, .slice none 0 0]) (by simp [results, Tryd.results105, go_sem]) rfl ⟨_, _, _, rfl, ⟨?_, ?_, ⟨rfl, .inl ⟨rfl, rfl⟩⟩, fun g e e' => by simp [Value.ownBlock] at e e'; omega, fun _ _ e => by simp [Value.ownBlock] at e, fun _ _ e => by simp [Value.ownBlock] at e⟩, ?_⟩
      · exact own_made (heap3 w _ _ _).1 (by unfold maxLen; omega) (by omega)
      · exact own_made (heap3 w _ _ _).2 (by unfold maxLen; omega) (by omega)
      · exact ((((Below.refl _ _).alloc (Nat.le_refl _) _).alloc (by simp) _).alloc (by simp; omega) _).drew
    · go_wp2
      refine bodyPost_ret (v := .agg #[.slice (some ⟨w.heap.size + 1 + 1, 0, none⟩) m m, .slice (some ⟨w.heap.size + 1, 0, none⟩) m m, .slice none 0 0]) (by simp [results, Tryd.results105, go_sem]) rfl ⟨_, _, _, rfl, ⟨?_, ?_, ⟨rfl, .inl ⟨rfl, rfl⟩⟩, fun g e e' => by simp [Value.ownBlock] at e e'; omega, fun _ _ e => by simp [Value.ownBlock] at e, fun _ _ e => by simp [Value.ownBlock] at e⟩, ?_⟩
      · exact own_made (heap3 w _ _ _).2 (by unfold maxLen; omega) (by omega)
      · exact own_made (heap3 w _ _ _).1 (by unfold maxLen; omega) (by omega)
      · exact ((((Below.refl _ _).alloc (Nat.le_refl _) _).alloc (by simp) _).alloc (by simp; omega) _).drew
end Go.Proofs.YtkbdiinmicedfaaDoor
