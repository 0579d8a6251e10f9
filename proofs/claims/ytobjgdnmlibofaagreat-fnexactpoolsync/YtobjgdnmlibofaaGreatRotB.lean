/-
  Bits of a byte turned: '[]byte(s)', a byte changed, 'string(b)'; and what DiskRot makes of a disk.
-/
import Derived.Test.YtobjgdnmlibofaaGreatImPut
import Derived.Laws.BitsAllLaws
set_option maxRecDepth 100000
namespace Go.Proofs.YtobjgdnmlibofaaGreat
open Go.ChangeShapes Go.WideShapes Go.ChangeAt Go.RowKit Go.Proofs.Palim

/-- Block b begins with these bytes, and they may be written. -/
def ByteBlk (w : World) (b : Nat) (l : List UInt8) : Prop := ∀ (j : Nat) (h : j < l.length), w.cell? ⟨b, j, none⟩ = some (.int .u8 (l[j].toNat : Int)) ∧ w.frozen? ⟨b, j, none⟩ = false
theorem ByteBlk.kept {w w' : World} {b : Nat} {l : List UInt8} (h : ByteBlk w b l) (hb : w'.heap[b]? = w.heap[b]?) : ByteBlk w' b l := fun j hj => by
  have h1 := h j hj
  constructor
  · rw [World.cell?_of_block (a := ⟨b, j, none⟩) hb]; exact h1.1
  · have : w'.frozen? ⟨b, j, none⟩ = w.frozen? ⟨b, j, none⟩ := by simp [World.frozen?, hb]
    rw [this]; exact h1.2
theorem ByteBlk.drew {w : World} {b : Nat} {l : List UInt8} (h : ByteBlk w b l) : ByteBlk w.drew b l := h.kept (show w.drew.heap[b]? = w.heap[b]? from rfl)
theorem ByteBlk.set {w : World} {b : Nat} {l : List UInt8} (h : ByteBlk w b l) (k : Nat) (z : UInt8) (hk : k < l.length) : ByteBlk (w.setCell ⟨b, k, none⟩ (.int .u8 (z.toNat : Int))) b (l.set k z) := fun j hj => by
  rw [List.length_set] at hj
  have h1 := h j hj
  have h2 := h k hk
  constructor
  · by_cases e : k = j
    · subst e
      rw [World.cell?_setCell_same' _ _ _ (by rw [h2.1]; rfl)]
      simp
    · rw [List.getElem_set_ne e]
      rw [World.cell?_setCell_other _ _ _ _ (fun h => e (by injection h)), h1.1]
  · rw [World.frozen?_setCell]; exact h1.2

theorem bytes_row (s : ByteArray) (cap j : Nat) (h : j < s.data.toList.length) : (bytesRow s cap)[j]? = some (.int .u8 (s.data.toList[j].toNat : Int)) := by
  have hj : j < s.data.size := by simpa using h
  unfold bytesRow
  rw [Array.getElem?_append_left (by simpa using hj), Array.getElem?_map, Array.getElem?_eq_getElem hj]
  simp

theorem bytes_new (s : ByteArray) (w : World) : ∃ cap w', (convert 9 121 (.string s)).run Tryz.prog w = .ok (.slice (some ⟨w.heap.size, 0, none⟩) s.size cap) w' ∧ Below w.heap.size w w' ∧ w'.heap.size = w.heap.size + 1 ∧ ByteBlk w' w.heap.size s.data.toList := by
  refine ⟨_, _, run_bytes_of_string w 9 121 5 s Tryz.underlying9 Tryz.underlying121 Tryz.underlying5, ?_, by simp, fun j hj => ?_⟩
  · exact (Below.refl _ w).drew.alloc (Nat.le_refl _) _
  · have hh : (w.drew.alloc (.cells (bytesRow s (grownCap w s.size 0 5)) 5 ((bytesRow s (grownCap w s.size 0 5)).size, (bytesRow s (grownCap w s.size 0 5)).size + 1))).heap[w.heap.size]? = some (.cells (bytesRow s (grownCap w s.size 0 5)) 5 ((bytesRow s (grownCap w s.size 0 5)).size, (bytesRow s (grownCap w s.size 0 5)).size + 1)) := by
      show (w.heap.push _)[w.heap.size]? = _
      simp
    have hr := bytes_row s (grownCap w s.size 0 5) j hj
    have hlt := (Array.getElem?_eq_some_iff.1 hr).1
    constructor
    · simp only [World.cell?, hh]; exact hr
    · simp only [World.frozen?, hh]
      simp
      omega
theorem bytes_back (w : World) (b cap : Nat) (l : List UInt8) (h : ByteBlk w b l) : (convert 121 9 (.slice (some ⟨b, 0, none⟩) l.length cap)).run Tryz.prog w = .ok (.string ⟨l.toArray⟩) w :=
  run_convert_bytes_back w 121 9 5 ⟨b, 0, none⟩ cap l Tryz.underlying121 Tryz.underlying5 Tryz.underlying9 fun j hj => by
    have ha : (⟨b, 0, none⟩ : Addr).add j = ⟨b, j, none⟩ := by unfold Addr.add; split <;> simp_all
    rw [ha]; exact (h j hj).1

/-- A byte with bits turned. -/
def rotB (s : ByteArray) (k m : Nat) : ByteArray := ⟨(s.data.toList.set k (UInt8.ofNat ((s.data.toList.getD k 0).toNat ^^^ m))).toArray⟩
theorem rot_byte (c : UInt8) (m : Nat) (hm : m ≤ 255) : bits .xor .u8 (c.toNat : Int) ((m : Nat) : Int) = ((UInt8.ofNat (c.toNat ^^^ m)).toNat : Int) := by
  have hc := c.toNat_lt
  rw [u8_xor_nat _ _ hc (by omega), UInt8.toNat_ofNat_of_lt' (Nat.xor_lt_two_pow (n := 8) (by simpa using hc) (by omega))]
theorem rotB_size (s : ByteArray) (k m : Nat) : (rotB s k m).size = s.size := by
  show (s.data.toList.set k _).toArray.size = s.data.size
  simp
def sect (d : DiskM) (side at_ : Int) : ByteArray := (sideOf d side).getD at_.toNat ⟨#[]⟩
def CanRot (d : DiskM) (side at_ k mask : Int) : Prop := There d.s0.length side at_ 0 ∧ 0 ≤ k ∧ k < (sect d side at_).size ∧ 1 ≤ mask ∧ mask ≤ 255
instance (d : DiskM) (side at_ k mask : Int) : Decidable (CanRot d side at_ k mask) := by unfold CanRot; infer_instance
def rotM (d : DiskM) (side at_ k mask : Int) : DiskM := if DiskOkM d then (if CanRot d side at_ k mask then putM d side at_ (rotB (sect d side at_) k.toNat mask.toNat) else d) else noDisk

theorem DiskOwn.put0 {w : World} {base g c : Nat} {v1 vl : Value} {d : DiskM} (ho : DiskOwn w base (.slice (some ⟨g, 0, none⟩) d.s0.length c) v1 vl d) (k : Nat) (t : ByteArray) :
    DiskOwn (w.setCell ⟨g, k, none⟩ (.string t)) base (.slice (some ⟨g, 0, none⟩) d.s0.length c) v1 vl (putM d 0 (k : Int) t) ∧ Turned (DTurns (.slice (some ⟨g, 0, none⟩) d.s0.length c) v1 vl) w (w.setCell ⟨g, k, none⟩ (.string t)) := by
  have hp := own_put ho.o0 k t
  refine ⟨⟨hp, ?_, own_kept ho.ol fun b e => Below.heap_setCell _ _ _ _ fun e' => ho.p0l g rfl (by rw [e]; exact congrArg some e'), ho.p01, ho.p0l, ho.p1l⟩, turned_setCell (Turned.refl _ w) (p := ⟨g, k, none⟩) (Or.inl rfl) _⟩
  exact own_kept ho.o1 fun b e => Below.heap_setCell _ _ _ _ fun e' => ho.p01 g rfl (by rw [e]; exact congrArg some e')
theorem DiskOwn.put1 {w : World} {base g c : Nat} {v0 vl : Value} {d : DiskM} (ho : DiskOwn w base v0 (.slice (some ⟨g, 0, none⟩) d.s1.length c) vl d) (k : Nat) (t : ByteArray) :
    DiskOwn (w.setCell ⟨g, k, none⟩ (.string t)) base v0 (.slice (some ⟨g, 0, none⟩) d.s1.length c) vl (putM d 1 (k : Int) t) ∧ Turned (DTurns v0 (.slice (some ⟨g, 0, none⟩) d.s1.length c) vl) w (w.setCell ⟨g, k, none⟩ (.string t)) := by
  have hp := own_put ho.o1 k t
  refine ⟨⟨?_, hp, own_kept ho.ol fun b e => Below.heap_setCell _ _ _ _ fun e' => ho.p1l g rfl (by rw [e]; exact congrArg some e'), ho.p01, ho.p0l, ho.p1l⟩, turned_setCell (Turned.refl _ w) (p := ⟨g, k, none⟩) (Or.inr (Or.inl rfl)) _⟩
  exact own_kept ho.o0 fun b e => Below.heap_setCell _ _ _ _ fun e' => ho.p01 b e (congrArg some e'.symm)
end Go.Proofs.YtobjgdnmlibofaaGreat
