/-
  Drawn numbers, fates and long texts, and the reader opened: the reader alone is turned, and new blocks are laid.
-/
import Derived.Test.YtfacbjldpenpjaaDrawText
import Derived.Test.YtfacbjldpenpjaaIntS
import Derived.Test.YtfacbjldpenpjaaFresh
import Derived.Test.YtfacbjldpenpjaaImClone
set_option maxRecDepth 100000
namespace Go.Proofs.Ytfacbjldpenpjaa
open Go.ChangeShapes Go.WideShapes Go.ChangeAt Go.RowKit Go.Proofs.Palim

/-- A code that came in: its bytes lie in a block that is there. -/
def Code (w : World) (A : Option Addr) (n c : Nat) : Prop := n ≤ c ∧ n ≤ maxLen ∧ c ≤ maxLen ∧
  (n = 0 ∨ ∃ b off, A = some ⟨b, off, none⟩ ∧ b < w.heap.size ∧ ∀ i, i < n → ∃ x : UInt8, w.cell? ⟨b, off + i, none⟩ = some (.int .u8 (x.toNat : Int)))
theorem Code.below {w w' : World} {A : Option Addr} {n c : Nat} (h : Code w A n c) (hb : Below w.heap.size w w') : Code w' A n c := by
  obtain ⟨h1, h2, h3, h4⟩ := h
  refine ⟨h1, h2, h3, h4.imp id ?_⟩
  rintro ⟨b, off, rfl, hlt, hc⟩
  refine ⟨b, off, rfl, Nat.lt_of_lt_of_le hlt hb.size, fun i hi => ?_⟩
  obtain ⟨x, hx⟩ := hc i hi
  exact ⟨x, (hb.cell hlt).trans hx⟩

def OpenedPost (w : World) (e : Ending) (w' : World) : Prop :=
  e = .returned (.pointer (some ⟨w.heap.size, 0, none⟩)) ∧ Below w.heap.size w w' ∧ Rd w' w.heap.size 0

theorem opened {w : World} {A : Option Addr} {n c : Nat} (hn : n ≤ 2000) (h : n = 0 ∨ ∃ b off, A = some ⟨b, off, none⟩ ∧ b < w.heap.size ∧ ∀ i, i < n → ∃ x : UInt8, w.cell? ⟨b, off + i, none⟩ = some (.int .u8 (x.toNat : Int))) :
    Rd (w.alloc (.cells #[.slice A n c, .int .i64 0] 91)) w.heap.size 0 := by
  refine ⟨A, n, c, heap_alloc_new w _, hn, h.imp id ?_⟩
  rintro ⟨b, off, rfl, hlt, hc⟩
  refine ⟨b, off, rfl, hlt, fun i hi => ?_⟩
  obtain ⟨x, hx⟩ := hc i hi
  exact ⟨x, (World.cell?_alloc_lt w _ _ hlt).trans hx⟩

set_option maxHeartbeats 400000 in
theorem l19Open_any (A : Option Addr) (n c : Nat) (w : World) (h : Code w A n c) :
    Calls Try.prog 25 #[.slice A n c] w (OpenedPost w) := by
  obtain ⟨h1, h2, h3, h4⟩ := h
  have H4 := Lib.hid h4
  clear h4
  unfold maxLen at h2 h3
  by_cases hl : 2000 < n
  · go_enter Try.func25, Try.ntmps25
    go_wp2
    all_goals go_ret
    all_goals refine ⟨rfl, (Below.refl _ _).alloc (Nat.le_refl _) _, opened (by omega) ?_⟩
    all_goals
      right
      obtain ⟨b, off, rfl, hlt, hc⟩ := H4.out.resolve_left (by omega)
      exact ⟨b, off, rfl, hlt, fun i hi => hc i (by omega)⟩
  · go_enter Try.func25, Try.ntmps25
    go_wp2
    all_goals go_ret
    all_goals exact ⟨rfl, (Below.refl _ _).alloc (Nat.le_refl _) _, opened (by omega) H4.out⟩

theorem below_dr {B : Nat} {a w : World} (h : Below B a w) (n : Nat) : Below B a (w.drewN n) := ⟨h.os, h.tape, h.output, h.size, h.block⟩
theorem below_of_reader {w w1 w2 : World} (hb : Below w.heap.size w w1) (hg : w1.grownBy w2 (some w.heap.size)) : Below w.heap.size w w2 :=
  hb.grown hg hb.size (fun k h => by injection h; omega)

def NumPost (w : World) (g k : Nat) (zs : List Int) (e : Ending) (w' : World) : Prop :=
  ∃ z q, z ∈ zs ∧ e = .returned (.int .i64 z) ∧ w' = (w.setCell ⟨g, 1, none⟩ (.int .i64 ((k : Int) + 1))).drewN q

set_option maxHeartbeats 400000 in
theorem num_any (g k h L : Nat) (zs : List Int) (t : TypeId) (fr : Nat × Nat) (w : World) (hr : Rd w g k) (hk : k ≤ 1000000) (hh : w.heap[h]? = some (.cells (ics zs).toArray t fr)) (hgh : h ≠ g) (hL : zs.length = L) (hs0 : 0 < L) (hs1 : L ≤ 1000) :
    Calls Try.prog 27 #[.pointer (some ⟨g, 0, none⟩), .slice (some ⟨h, 0, none⟩) L L] w (NumPost w g k zs) := by
  have HR := Lib.hid hr
  have HH := Lib.hid hh
  have HL := Lib.hid hL
  clear hr hh hL
  go_enter Try.func27, Try.ntmps27
  go_wp2_with fail
  refine (pick_any g k L w HR.out hk (by omega)).mono ?_
  rintro e w1 ⟨r, q, hr, rfl, rfl⟩
  have hr1 : r < zs.length := by have := HL.out; omega
  have hr2 : (r : Int) < (L : Int) := by omega
  have hc : (w.setCell ⟨g, 1, none⟩ (.int .i64 ((k : Int) + 1))).cell? ⟨h, r, none⟩ = some (.int .i64 zs[r]) := by
    rw [World.cell?_setCell_other _ _ _ _ (by intro e; injection e; omega), cell_of_row w h r _ _ _ HH.out]
    simp [ics, hr1]
  clear hr
  go_wp2
  go_ret
  exact ⟨zs[r], q, List.getElem_mem _, rfl, rfl⟩

def ManyPost (w : World) (n : Nat) (e : Ending) (w' : World) : Prop := ∃ t : ByteArray, t.size ≤ n ∧ e = .returned (.string t) ∧ Below w.heap.size w w'

set_option maxHeartbeats 400000 in
/-- A text of one byte, so many times: it is no longer than that. -/
theorem l19Many_any (c : UInt8) (n : Nat) (w : World) (hn : n ≤ 1000) :
    Calls Try.prog 29 #[.string ⟨#[c]⟩, .int .i64 (n : Int)] w (ManyPost w n) := by
  go_enter Try.func29, Try.ntmps29
  go_wp2
  go_loopw [0, 1, 5] (fun s m o wr => ∃ (ss os : ByteArray) (j : Nat), s = .string ss ∧ m = .int .i64 (j : Int) ∧ o = .string os ∧ wr = w ∧ j ≤ 1000 ∧ ss.size ≤ 2000 ∧ os.size ≤ 1000 ∧ Hid (os.size + ss.size * j ≤ n)) (fun _ m _ _ => (intOf m).toNat)
  case atStart => exact ⟨⟨#[c]⟩, ⟨#[]⟩, n, rfl, rfl, rfl, rfl, hn, by show 1 ≤ 2000; omega, Nat.zero_le _, Lib.hid (by show 0 + 1 * n ≤ n; omega)⟩
  case round =>
    obtain ⟨ss, os, j, rfl, rfl, rfl, rfl, hj, hss, hos, HS⟩ := hrel
    by_cases hj0 : j = 0
    · subst hj0
      go_wp2
      go_ret
      exact ⟨os, by have := HS.out; omega, rfl, Below.refl _ _⟩
    · have hpos : (0 : Int) < (j : Int) := by omega
      have hss1 : ss.size ≤ 1000 := by
        have h1 := HS.out
        have h2 : ss.size * 1 ≤ ss.size * j := Nat.mul_le_mul_left _ (by omega)
        omega
      have HD := Lib.hid (show (ss ++ ss).size = ss.size + ss.size from ByteArray.size_append)
      have HO := Lib.hid (show (os ++ ss).size = os.size + ss.size from ByteArray.size_append)
      have HQ := Lib.hid (show Value.int .i64 ((j : Int) / 2) = .int .i64 ((j / 2 : Nat) : Int) from by congr 1)
      by_cases hodd : j % 2 = 1
      · have hm : (j : Int).tmod 2 = 1 := by rw [Int.tmod_eq_emod_of_nonneg (by omega)]; omega
        have HS2 := Lib.hid (show (os ++ ss).size + (ss ++ ss).size * (j / 2) ≤ n from by
          have h1 := HS.out
          rw [HD.out, HO.out]
          have h2 : ss.size * j = ss.size * (2 * (j / 2) + 1) := by congr 1; omega
          rw [Nat.mul_add, Nat.mul_one, ← Nat.mul_assoc] at h2
          rw [show ss.size + ss.size = ss.size * 2 by omega]
          omega)
        go_wp2
        go_roundw
        case rel => exact ⟨ss ++ ss, os ++ ss, j / 2, by first | rfl | trivial, by first | exact HQ.out | (simp; done) | go_num, by first | rfl | trivial, by first | rfl | trivial, by omega, by rw [HD.out]; omega, by have h1 := HS.out; have h2 : ss.size * 1 ≤ ss.size * j := Nat.mul_le_mul_left _ (by omega); rw [HO.out]; omega, HS2⟩
        case measure => simp [intOf]; omega
      · have hm : (j : Int).tmod 2 = 0 := by rw [Int.tmod_eq_emod_of_nonneg (by omega)]; omega
        have HS2 := Lib.hid (show os.size + (ss ++ ss).size * (j / 2) ≤ n from by
          have h1 := HS.out
          rw [HD.out]
          have h2 : ss.size * j = ss.size * (2 * (j / 2)) := by congr 1; omega
          rw [← Nat.mul_assoc] at h2
          rw [show ss.size + ss.size = ss.size * 2 by omega]
          omega)
        go_wp2
        go_roundw
        case rel => exact ⟨ss ++ ss, os, j / 2, by first | rfl | trivial, by first | exact HQ.out | (simp; done) | go_num, by first | rfl | trivial, by first | rfl | trivial, by omega, by rw [HD.out]; omega, hos, HS2⟩
        case measure => simp [intOf]; omega

def FatePost (w : World) (g k : Nat) (e : Ending) (w' : World) : Prop :=
  ∃ (fs : List Int) (v : Value) (k' : Nat), fs.length ≤ 15 ∧ k' ≤ k + 16 ∧ e = .returned v ∧ w'.ownsRow w.heap.size 3 1 v fs.length (ics fs) ∧ w.grownBy w' (some g) ∧ Rd w' g k'

set_option maxHeartbeats 1000000 in
theorem l2Fate_any (g k : Nat) (w : World) (hr : Rd w g k) (hk : k ≤ 900000) :
    Calls Try.prog 59 #[.pointer (some ⟨g, 0, none⟩)] w (FatePost w g k) := by
  obtain ⟨j0, hj_, hy0, hy1, hy2⟩ := info_parts infoInt
  have HR := Lib.hid hr
  have hgl := hr.lt
  clear hr
  go_enter Try.func59, Try.ntmps59
  go_wp2_with fail
  have HR0 := Lib.hid (HR.out.alloc (.cells #[] 3))
  refine (pick_any g k 16 _ HR0.out (by omega) (by omega)).mono ?_
  rintro e w1 ⟨r, q, hr, rfl, rfl⟩
  have HR1 := Lib.hid (HR0.out.next q)
  have HG := Lib.hid (grown_pick (grown_alloc (World.grownBy.refl w (some g)) (.cells #[] 3)) (.int .i64 ((k : Int) + 1)) q)
  have HO := Lib.hid (show ((((w.alloc (.cells #[] 3)).setCell ⟨g, 1, none⟩ (.int .i64 ((k : Int) + 1)))).drewN q).ownsRow w.heap.size 3 1 (.slice (some ⟨w.heap.size, 0, none⟩) 0 0) 0 (ics []) from by
    have h0 : (w.alloc (.cells #[] 3)).ownsRow w.heap.size 3 1 (.slice (some ⟨w.heap.size, 0, none⟩) 0 0) 0 (ics []) := own_empty (At.new rfl) (Nat.le_refl _)
    refine own_kept h0 fun b e => ?_
    have h1 : w.heap.size = b := by simpa [Value.ownBlock] using e
    exact Below.heap_setCell _ _ _ _ (by simp; omega))
  have hr16 : r < 16 := by omega
  clear hr HR0
  generalize ((w.alloc (.cells #[] 3)).setCell ⟨g, 1, none⟩ (.int .i64 ((k : Int) + 1))).drewN q = w1 at HR1 HG HO ⊢
  go_wp2_with fail
  go_loopw [3, 4] (fun v i wr => ∃ (j kk m : Nat) (A : Option Addr) (c : Nat) (fs : List Int), j ≤ 15 ∧ i = .int .i64 (j : Int) ∧ v = .slice A m c ∧ m + j ≤ 15 ∧ kk + j ≤ k + 16 ∧ Hid (fs.length = m) ∧ Hid (wr.ownsRow w.heap.size 3 1 (.slice A m c) m (ics fs)) ∧ Hid (Rd wr g kk) ∧ Hid (w.grownBy wr (some g))) (fun _ i _ => (intOf i).toNat)
  case atStart => exact ⟨r, k + 1, 0, _, _, [], by omega, rfl, rfl, by omega, by omega, Lib.hid rfl, HO, HR1, HG⟩
  case round =>
    obtain ⟨j, kk, m, A, c, fs, hj, rfl, rfl, hmj, hkk, HF, HOr, HRr, HGr⟩ := hrel
    by_cases hlt : 0 < j
    · go_wp2_with fail
      refine (num_any g kk wr.heap.size 6 [0, 1, 1, 1, 2, 3] 3 (0, 0) _ (HRr.out.alloc _) (by omega) (heap_alloc_new wr _) (by have := HRr.out.lt; omega) rfl (by omega) (by omega)).mono ?_
      rintro e w2 ⟨z, q2, hz, rfl, rfl⟩
      have HR2 := Lib.hid ((HRr.out.alloc (.cells (ics [0, 1, 1, 1, 2, 3]).toArray 3)).next q2)
      have HG2 := Lib.hid (grown_pick (grown_alloc HGr.out (.cells (ics [0, 1, 1, 1, 2, 3]).toArray 3)) (.int .i64 ((kk : Int) + 1)) q2)
      have HO2 := Lib.hid (show ((((wr.alloc (.cells (ics [0, 1, 1, 1, 2, 3]).toArray 3)).setCell ⟨g, 1, none⟩ (.int .i64 ((kk : Int) + 1)))).drewN q2).ownsRow w.heap.size 3 1 (.slice A m c) m (ics fs) from by
        refine own_kept HOr.out fun b e => ?_
        have h1 := HOr.out.lt b e
        exact (Below.heap_setCell _ _ _ _ (by simp; omega)).trans (Below.heap_alloc _ _ _ h1.2))
      clear hz HRr HGr HOr
      have hw2 : w.heap.size ≤ (((wr.alloc (.cells (ics [0, 1, 1, 1, 2, 3]).toArray 3)).setCell ⟨g, 1, none⟩ (.int .i64 ((kk : Int) + 1))).drewN q2).heap.size := HG2.out.size
      generalize ((wr.alloc (.cells (ics [0, 1, 1, 1, 2, 3]).toArray 3)).setCell ⟨g, 1, none⟩ (.int .i64 ((kk : Int) + 1))).drewN q2 = w2 at HR2 HG2 HO2 hw2 ⊢
      have hgl2 := HR2.out.lt
      go_wp2_with (first
        | (at_builtin; refine wpList_append_lies _ rfl _ _ 32 rfl w.heap.size 3 j0 _ 1 8 Try.underlying32 hj_ hy0 hy1 hy2 rfl (by omega) _ m (ics fs) rfl (HO2.out.alloc _) ⟨w2.heap.size, 0, none⟩ 1 1 [.int .i64 z] rfl rfl ?c1 (by simp; rfl) (by omega) (by unfold maxLen; omega) (by omega) (by simp; omega) (w2.heap.size + 1) (by simp) ?_))
      case c1 => exact World.news_of_block (cs := #[.int .i64 z]) (t := 3) (fr := (0, 0)) (heap_alloc_new w2 _)
      intro gg cap w3 hown3 hgrow hat hglt
      have HO3 := Lib.hid (show w3.ownsRow w.heap.size 3 1 (.slice (some ⟨gg, 0, none⟩) (m + 1) cap) (m + 1) (ics (fs ++ [z])) from by rw [ics_snoc]; exact hown3)
      have hkeep : ∀ b, b < w2.heap.size → (Value.slice A m c).ownBlock ≠ some b → w3.heap[b]? = w2.heap[b]? := fun b hb hne =>
        (hgrow.block b (by simp; omega) (fun e => hne e.symm)).trans (Below.heap_alloc w2 _ b hb)
      have hlow : ∀ b, b < w.heap.size → w3.heap[b]? = w2.heap[b]? := fun b hb => hkeep b (by omega) (fun e => by have := (HO2.out.lt b e).1; omega)
      have HR3 := Lib.hid (HR2.out.kept (w' := w3) fun b hb => hlow b (by omega))
      have HG3 := Lib.hid (show w.grownBy w3 (some g) from ⟨(hgrow.os.trans rfl).trans HG2.out.os, (hgrow.tape.trans rfl).trans HG2.out.tape, (hgrow.output.trans rfl).trans HG2.out.output, Nat.le_trans hw2 (Nat.le_trans (by simp) hgrow.size), fun b hb hne => (hlow b hb).trans (HG2.out.block b hb hne)⟩)
      have HF3 := Lib.hid (show (fs ++ [z]).length = m + 1 from by simp [HF.out])
      clear hown3 hgrow hat hglt hkeep hlow HR2 HG2 HO2 HF
      go_wp2
      go_roundw
      case rel => exact ⟨j - 1, kk + 1, m + 1, _, _, fs ++ [z], by omega, by go_num, rfl, by omega, by omega, HF3, HO3, HR3, HG3⟩
      case measure => simp [intOf]; omega
    · go_wp2
      go_ret
      refine ⟨fs, _, kk, by have := HF.out; omega, by omega, rfl, ?_, HGr.out, HRr.out⟩
      rw [HF.out]; exact HOr.out
end Go.Proofs.Ytfacbjldpenpjaa
