/-
  Drawn texts: 'of' hands back one of its list; a drawn text is short; the reader alone is turned, and new blocks are laid.
-/
import Derived.Test.YtfacbjldpenpjaaRd
import Derived.Test.YtfacbjldpenpjaaMem
import Derived.WalkKit
import Derived.ProofKit
import Derived.Lib.Hide
import Derived.WalkSpells
import Derived.WalkSmall
import Derived.Laws.Pointers
import Derived.Maps.AppendAt
import Derived.Deep.Draws
namespace Go.Proofs.Ytfacbjldpenpjaa
open Go.ChangeShapes Go.WideShapes Go.ChangeAt Go.RowKit Go.Proofs.Palim

/-- A reader stands as it was where its own block and its code's are as they were. -/
theorem Rd.kept {w w' : World} {g k : Nat} (h : Rd w g k) (hb : ∀ b, b ≤ g → w'.heap[b]? = w.heap[b]?) : Rd w' g k := by
  obtain ⟨A, n, c, h, hn, hr⟩ := h
  refine ⟨A, n, c, by rw [hb g (Nat.le_refl _)]; exact h, hn, hr.imp id ?_⟩
  rintro ⟨b, off, rfl, hlt, hc⟩
  refine ⟨b, off, rfl, hlt, fun i hi => ?_⟩
  obtain ⟨x, hx⟩ := hc i hi
  exact ⟨x, (World.cell?_of_block (hb b (by omega))).trans hx⟩
theorem Rd.alloc {w : World} {g k : Nat} (h : Rd w g k) (o : Obj) : Rd (w.alloc o) g k :=
  h.kept fun b hb => Below.heap_alloc w o b (by have := h.lt; omega)
theorem grown_pick {w0 w : World} {g : Nat} (h : w0.grownBy w (some g)) (v : Value) (q : Nat) : w0.grownBy ((w.setCell ⟨g, 1, none⟩ v).drewN q) (some g) :=
  ⟨h.os, h.tape, h.output, by simpa [World.setCell] using h.size, fun i hi hne => by
    have e : ((w.setCell ⟨g, 1, none⟩ v).drewN q).heap[i]? = (w.setCell ⟨g, 1, none⟩ v).heap[i]? := rfl
    rw [e, Below.heap_setCell w _ v i (fun e => hne (by rw [e]))]
    exact h.block i hi hne⟩
theorem grown_alloc {w0 w : World} {g : Nat} (h : w0.grownBy w (some g)) (o : Obj) : w0.grownBy (w.alloc o) (some g) :=
  ⟨h.os, h.tape, h.output, Nat.le_trans h.size (by simp), fun i hi hne => (Below.heap_alloc w o i (Nat.lt_of_lt_of_le hi h.size)).trans (h.block i hi hne)⟩

def OfPost (w : World) (g k : Nat) (ss : List ByteArray) (e : Ending) (w' : World) : Prop :=
  ∃ s q, s ∈ ss ∧ e = .returned (.string s) ∧ w' = (w.setCell ⟨g, 1, none⟩ (.int .i64 ((k : Int) + 1))).drewN q

set_option maxHeartbeats 400000 in
theorem of_any (g k h L : Nat) (ss : List ByteArray) (t : TypeId) (fr : Nat × Nat) (w : World) (hr : Rd w g k) (hk : k ≤ 1000000) (hh : w.heap[h]? = some (.cells (scs ss).toArray t fr)) (hgh : h ≠ g) (hL : ss.length = L) (hs0 : 0 < L) (hs1 : L ≤ 1000) :
    Calls Try.prog 60 #[.pointer (some ⟨g, 0, none⟩), .slice (some ⟨h, 0, none⟩) L L] w (OfPost w g k ss) := by
  have HR := Lib.hid hr
  have HH := Lib.hid hh
  have HL := Lib.hid hL
  clear hr hh hL
  go_enter Try.func60, Try.ntmps60
  go_wp2_with fail
  refine (pick_any g k L w HR.out hk (by omega)).mono ?_
  rintro e w1 ⟨r, q, hr, rfl, rfl⟩
  have hr1 : r < ss.length := by have := HL.out; omega
  have hr2 : (r : Int) < (L : Int) := by omega
  have hc : (w.setCell ⟨g, 1, none⟩ (.int .i64 ((k : Int) + 1))).cell? ⟨h, r, none⟩ = some (.string ss[r]) := by
    rw [World.cell?_setCell_other _ _ _ _ (by intro e; injection e; omega), cell_of_row w h r _ _ _ HH.out]
    simp [scs, hr1]
  clear hr
  go_wp2
  go_ret
  exact ⟨ss[r], q, List.getElem_mem _, rfl, rfl⟩

/-- What a drawn text is made of. -/
def textBits : List ByteArray := [⟨#[97]⟩, ⟨#[98]⟩, ⟨#[32]⟩, ⟨#[58]⟩, ⟨#[10]⟩, ⟨#[49, 50]⟩, ⟨#[255]⟩, ⟨#[0]⟩, ⟨#[120, 121, 122]⟩]
theorem textBits_size : ∀ s ∈ textBits, s.size ≤ 3 := by decide

def TextPost (w : World) (g k : Nat) (e : Ending) (w' : World) : Prop :=
  ∃ (t : ByteArray) (k' : Nat), t.size ≤ 18 ∧ k' ≤ k + 7 ∧ e = .returned (.string t) ∧ w.grownBy w' (some g) ∧ Rd w' g k'

set_option maxHeartbeats 400000 in
theorem l1Text_any (g k : Nat) (w : World) (hr : Rd w g k) (hk : k ≤ 900000) :
    Calls Try.prog 30 #[.pointer (some ⟨g, 0, none⟩)] w (TextPost w g k) := by
  have HR := Lib.hid hr
  clear hr
  go_enter Try.func30, Try.ntmps30
  go_wp2_with fail
  refine (pick_any g k 7 w HR.out (by omega) (by omega)).mono ?_
  rintro e w1 ⟨r, q, hr, rfl, rfl⟩
  have HR1 := Lib.hid (HR.out.next q)
  have HG := Lib.hid (grown_pick (World.grownBy.refl w (some g)) (.int .i64 ((k : Int) + 1)) q)
  have hr7 : r < 7 := by omega
  clear hr
  go_wp2_with fail
  go_loopw [3, 4] (fun v i wr => ∃ (j kk : Nat) (t : ByteArray), j ≤ 6 ∧ i = .int .i64 (j : Int) ∧ v = .string t ∧ t.size + 3 * j ≤ 18 ∧ kk + j ≤ k + 7 ∧ Hid (Rd wr g kk) ∧ Hid (w.grownBy wr (some g))) (fun _ i _ => (intOf i).toNat)
  case atStart => exact ⟨r, k + 1, ⟨#[]⟩, by omega, rfl, rfl, by show 0 + 3 * r ≤ 18; omega, by omega, HR1, HG⟩
  case round =>
    obtain ⟨j, kk, t, hj, rfl, rfl, ht, hkk, HRr, HGr⟩ := hrel
    by_cases hlt : 0 < j
    · go_wp2_with fail
      refine (of_any g kk wr.heap.size 9 textBits 9 (0, 0) _ (HRr.out.alloc _) (by omega) (heap_alloc_new wr _) (by have := HRr.out.lt; omega) rfl (by omega) (by omega)).mono ?_
      rintro e w2 ⟨s, q2, hs, rfl, rfl⟩
      have hs3 := textBits_size s hs
      have HR2 := Lib.hid ((HRr.out.alloc (.cells (scs textBits).toArray 9)).next q2)
      have HG2 := Lib.hid (grown_pick (grown_alloc HGr.out (.cells (scs textBits).toArray 9)) (.int .i64 ((kk : Int) + 1)) q2)
      clear hs
      have hsz : (t ++ s).size = t.size + s.size := ByteArray.size_append
      have HSZ := Lib.hid hsz
      clear hsz
      go_wp2
      go_roundw
      case rel => exact ⟨j - 1, kk + 1, t ++ s, by omega, by go_num, rfl, by have := HSZ.out; omega, by omega, HR2, HG2⟩
      case measure => simp [intOf]; omega
    · go_wp2
      go_ret
      exact ⟨t, kk, by omega, by omega, rfl, HGr.out, HRr.out⟩
end Go.Proofs.Ytfacbjldpenpjaa
