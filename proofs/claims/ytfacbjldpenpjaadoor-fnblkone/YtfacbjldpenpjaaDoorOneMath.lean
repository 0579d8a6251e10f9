/-
  A block written at one place: the other places read as before, and the block itself is read behind a flush and a power failure.
-/
import Derived.Test.YtfacbjldpenpjaaDoorDrawAll
import Derived.Test.YtfacbjldpenpjaaDoorBlkW
import Derived.Test.YtfacbjldpenpjaaDoorBlkR
import Derived.Test.YtfacbjldpenpjaaDoorPtrTo
set_option maxRecDepth 100000
namespace Go.Proofs.YtfacbjldpenpjaaDoor
open Go.Proofs.Palim

theorem blk_is {d : DiskM} {at_ : Int} {text : ByteArray} (h : CanBlk d at_ text) : blkM d at_ text = ⟨d.s0, d.s1, d.late ++ [⟨0, at_, text⟩] ++ [⟨1, at_, text⟩]⟩ := by
  unfold blkM
  rw [if_neg (by simpa using h.1), if_neg h.2.1, if_pos h.2.2.1]
  have e1 : writeM d 0 at_ text = _ := if_pos h.2.2.1
  have e2 : writeM (writeM d 0 at_ text) 1 at_ text = _ := if_pos h.2.2.2
  rw [e2, e1]
theorem blk_ok {d : DiskM} {at_ : Int} {text : ByteArray} (h : CanBlk d at_ text) : DiskOkM (blkM d at_ text) := by
  rw [blk_is h]
  obtain ⟨hk, hl, h0, h1⟩ := h
  have t0 := h0.2.1
  have e1 : writeM d 0 at_ text = _ := if_pos h0
  have t1 := h1.2.1
  rw [e1] at t1
  refine ⟨hk.1, hk.2.1, hk.2.2.1, ?_, hk.2.2.2.2.1, hk.2.2.2.2.2.1, ?_⟩
  · simp only [List.length_append, List.length_singleton]
    omega
  · intro l hl
    rcases List.mem_append.1 hl with h' | h'
    · rcases List.mem_append.1 h' with h'' | h''
      · exact hk.2.2.2.2.2.2 l h''
      · obtain rfl := List.mem_singleton.1 h''
        exact t0
    · obtain rfl := List.mem_singleton.1 h'
      exact t1
theorem can_other {d : DiskM} {at_ : Int} {text : ByteArray} (h : CanBlk d at_ text) (side i : Int) : CanRead (blkM d at_ text) side i ↔ CanRead d side i := by
  have hk := blk_ok h
  unfold CanRead
  have e : (blkM d at_ text).s0 = d.s0 := by rw [blk_is h]
  rw [e]
  exact ⟨fun k => ⟨h.1, k.2⟩, fun k => ⟨hk, k.2⟩⟩
theorem read_other {d : DiskM} {at_ : Int} {text : ByteArray} (h : CanBlk d at_ text) (side i : Int) (hi : i ≠ at_) : readOut (blkM d at_ text) side i = readOut d side i := by
  have e : readM (blkM d at_ text) side i = readM d side i := by
    rw [blk_is h]
    unfold readM
    simp only
    rw [lastOf_snoc, if_neg (fun k => hi k.2.symm), lastOf_snoc, if_neg (fun k => hi k.2.symm)]
    rfl
  unfold readOut
  by_cases hc : CanRead d side i
  · rw [if_pos hc, if_pos ((can_other h side i).2 hc), e]
  · rw [if_neg hc, if_neg (fun k => hc ((can_other h side i).1 k))]
theorem has_other {d : DiskM} {at_ : Int} {text : ByteArray} (h : CanBlk d at_ text) (p : PtrM) (side : Int) (hi : p.at_ ≠ at_) : HasB (blkM d at_ text) p side ↔ HasB d p side := by
  unfold HasB
  rw [can_other h, read_other h side p.at_ hi]
theorem has_no {d : DiskM} (side : Int) : ¬ HasB d noPtr side := null_not d noPtr side ⟨rfl, rfl, rfl⟩
/-- Another place reads as before. -/
theorem one_other {d : DiskM} {at_ : Int} {text : ByteArray} (h : CanBlk d at_ text) (i : Int) (s : ByteArray) (b : Int) (hi : i ≠ at_) :
    blkText (blkM d at_ text) (toM i s b) = blkText d (toM i s b) ∧ blkCode (blkM d at_ text) (toM i s b) = blkCode d (toM i s b) := by
  by_cases hp : PtrOkM ⟨i, sumOf s, b⟩
  · have e : toM i s b = ⟨i, sumOf s, b⟩ := if_pos hp
    rw [e]
    have h0 := has_other h ⟨i, sumOf s, b⟩ 0 hi
    have h1 := has_other h ⟨i, sumOf s, b⟩ 1 hi
    unfold blkText blkCode
    rw [read_other h 0 _ hi, read_other h 1 _ hi]
    simp only [h0, h1]
    exact ⟨trivial, trivial⟩
  · have e : toM i s b = noPtr := if_neg hp
    rw [e]
    unfold blkText blkCode
    simp only [has_no, if_false, or_self]
    exact ⟨trivial, trivial⟩
theorem pairs_nil (fs : List Int) : pairs [] fs = [] := by cases fs <;> rfl
theorem one_here {d : DiskM} {at_ : Int} {text : ByteArray} (h : CanBlk d at_ text) (ha : 1 ≤ at_) :
    blkText (fallM (flushM (blkM d at_ text)) []) (toM at_ text 1) = text ∧ blkCode (fallM (flushM (blkM d at_ text)) []) (toM at_ text 1) = 0 := by
  have hk := blk_ok h
  have ht := h.2.2.1.2.1
  have hn := h.1.2.1
  have hs := sumOf_bd text
  have hg : GoodM ⟨at_, sumOf text, 1⟩ := by
    unfold There at ht
    refine ⟨ha, ?_, hs.1, hs.2, ?_, ?_⟩
    · show at_ < 120
      omega
    · show (0 : Int) ≤ 1
      omega
    · show (1 : Int) ≤ 1000000
      omega
  have e : toM at_ text 1 = ⟨at_, sumOf text, 1⟩ := if_pos (Or.inr hg)
  have hl := layAll_len (blkM d at_ text).late ((blkM d at_ text).s0, (blkM d at_ text).s1)
  have ef : flushM (blkM d at_ text) = ⟨(layAll ((blkM d at_ text).s0, (blkM d at_ text).s1) (blkM d at_ text).late).1, (layAll ((blkM d at_ text).s0, (blkM d at_ text).s1) (blkM d at_ text).late).2, []⟩ := if_pos hk
  have ea : fallM (blkM d at_ text) (List.replicate (blkM d at_ text).late.length 1) = flushM (blkM d at_ text) := by
    have e3 : fallM (blkM d at_ text) (List.replicate (blkM d at_ text).late.length 1) = _ := if_pos hk
    rw [e3, pairs_ones _ _ (Nat.le_refl _), fallAll_ones, ef]
  have hok := ok_fall (fs := List.replicate (blkM d at_ text).late.length 1) hk
  rw [ea] at hok
  have hth : There (blkM d at_ text).s0.length 0 at_ text.size := by rw [blk_is h]; exact ht
  have e0 : readOut (fallM (flushM (blkM d at_ text)) []) 0 at_ = text := by
    rw [read_fall hok.1 (n := text.size) (by rw [hok.2]; exact hth), ef]
    simp only
    rw [pairs_nil]
    show sectOf (layAll ((blkM d at_ text).s0, (blkM d at_ text).s1) (blkM d at_ text).late) 0 at_.toNat = text
    rw [blk_is h]
    simp only
    rw [layAll_snoc]
    have hlen := layAll_len (d.late ++ [(⟨0, at_, text⟩ : LateM)]) (d.s0, d.s1)
    show sectOf (layM (layAll (d.s0, d.s1) (d.late ++ [⟨0, at_, text⟩])) 1 at_.toNat text) 0 at_.toNat = text
    have e5 : ∀ p : List ByteArray × List ByteArray, sectOf (layM p 1 at_.toNat text) 0 at_.toNat = sectOf p 0 at_.toNat := fun p => by
      unfold sectOf layM
      simp
    rw [e5, layAll_snoc]
    refine sectOf_lay (Or.inl ⟨rfl, ?_⟩)
    rw [(layAll_len d.late (d.s0, d.s1)).1]
    unfold There at ht
    show at_.toNat < d.s0.length
    omega
  have ho2 := ok_fall (fs := ([] : List Int)) hok.1
  have hc : CanRead (fallM (flushM (blkM d at_ text)) []) 0 at_ := canRead_of (n := text.size) ho2.1 (by rw [ho2.2, hok.2]; exact hth)
  have hb : HasB (fallM (flushM (blkM d at_ text)) []) ⟨at_, sumOf text, 1⟩ 0 := ⟨hc, hg, by show sumOf (readOut _ 0 at_) = sumOf text; rw [e0]⟩
  rw [e]
  unfold blkText blkCode
  rw [if_pos hb, if_neg (fun k => by have := k.1; simp at this; omega), if_pos (Or.inl hb)]
  exact ⟨e0, rfl⟩
end Go.Proofs.YtfacbjldpenpjaaDoor
