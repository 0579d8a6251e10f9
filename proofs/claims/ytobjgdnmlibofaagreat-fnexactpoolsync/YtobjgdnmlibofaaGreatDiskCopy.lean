/-
  spec's l2Copy: a disk in new memory.
-/
import Derived.Test.YtobjgdnmlibofaaGreatData
import Derived.Test.YtobjgdnmlibofaaGreatNames
set_option maxRecDepth 100000
namespace Go.Proofs.YtobjgdnmlibofaaGreat
open Go.ChangeShapes Go.WideShapes Go.ChangeAt Go.RowKit Go.Proofs.Palim

/-- What stays so while l2Copy's one region runs. -/
structure Reg (w : World) (v0 v1 vl : Value) (w' : World) : Prop where
  below : Below w.heap.size w w'
  box : Box w' w.heap.size [v0, v1, vl]
theorem Reg.drew {w w' : World} {v0 v1 vl : Value} (h : Reg w v0 v1 vl w') : Reg w v0 v1 vl w'.drew := ⟨h.below.drew, h.box⟩
theorem Reg.alloc {w w' : World} {v0 v1 vl : Value} (h : Reg w v0 v1 vl w') (o : Obj) : Reg w v0 v1 vl (w'.alloc o) := ⟨h.below.alloc h.below.size o, h.box.alloc o⟩
theorem Reg.setCell {w w' : World} {v0 v1 vl : Value} (h : Reg w v0 v1 vl w') (k : Nat) (u : Value) : Reg w v0 v1 vl (w'.setCell ⟨w.heap.size + 1, k, none⟩ u) := ⟨h.below.setCell (by simp) u, h.box.other (by simp) u⟩
theorem Reg.grown {w w' w2 : World} {v0 v1 vl : Value} {row : Option Nat} (h : Reg w v0 v1 vl w') (hg : w'.grownBy w2 row) (hr : ∀ g, row = some g → w.heap.size + 2 ≤ g) : Reg w v0 v1 vl w2 :=
  ⟨h.below.grown hg h.below.size (fun k e => by have := hr k e; omega), h.box.kept (hg.block _ h.box.lt (fun e => by have := hr _ e.symm; omega))⟩
theorem box_grown {w' w2 : World} {b B : Nat} {vs : List Value} {row : Option Nat} (h : Box w' b vs) (hg : w'.grownBy w2 row) (hr : ∀ g, row = some g → B ≤ g) (hb : b < B) : Box w2 b vs :=
  h.kept (hg.block _ h.lt (fun e => by have := hr _ e.symm; omega))
theorem Reg.all {w w' : World} {v0 v1 vl : Value} (h : Reg w v0 v1 vl w') : w'.cell? ⟨w.heap.size, 0, none⟩ = some v0 ∧ w'.cell? ⟨w.heap.size, 1, none⟩ = some v1 ∧ w'.cell? ⟨w.heap.size, 2, none⟩ = some vl ∧ Reg w v0 v1 vl w' := ⟨h.box.cell 0 rfl, h.box.cell 1 rfl, h.box.cell 2 rfl, h⟩

/-- Block g is empty, of elements e. -/
def At (w : World) (g e : Nat) : Prop := w.heap[g]? = some (.cells #[] e)
theorem At.drew {w : World} {g e : Nat} (h : At w g e) : At w.drew g e := h
theorem At.lt {w : World} {g e : Nat} (h : At w g e) : g < w.heap.size := (Array.getElem?_eq_some_iff.1 h).1
theorem At.alloc {w : World} {g e : Nat} (h : At w g e) (o : Obj) : At (w.alloc o) g e := (Below.heap_alloc w o g h.lt).trans h
theorem At.new {w : World} {g e : Nat} (h : w.heap.size = g) : At (w.alloc (.cells #[] e)) g e := by
  subst h
  show (w.heap.push _)[w.heap.size]? = _
  exact Array.getElem?_push_size
theorem At.grown {w w2 : World} {g g' e : Nat} (h : At w g e) (hk : ∀ k, k < w.heap.size → k ≠ g' → w2.heap[k]? = w.heap[k]?) (hne : g ≠ g') : At w2 g e := (hk g h.lt hne).trans h

theorem own_empty {w : World} {base e sz g : Nat} (h : At w g e) (hb : base ≤ g) : w.ownsRow base e sz (.slice (some ⟨g, 0, none⟩) 0 0) 0 [] := by
  simpa using own_new (sz := sz) (n := 0) h (by simp) (Nat.zero_le _) hb
theorem scs_one (ss : List ByteArray) : ∀ u ∈ scs ss, u.oneCell' = true := by
  intro u hu
  obtain ⟨s, _, rfl⟩ := List.mem_map.1 hu
  rfl
theorem lcs_one (ls : List LateM) : ∀ u ∈ lcs ls, u.oneCell' = true := by
  intro u hu
  obtain ⟨l, _, h⟩ := List.mem_flatMap.1 hu
  simp [lc] at h
  rcases h with rfl | rfl | rfl <;> rfl

/-- The block of an answer of append: the old one, or the one that is made now. -/
theorem loc {A : Option Addr} {n cap g s b : Nat} (ha : (Value.slice A n cap).ownBlock = (Value.slice (some ⟨g, 0, none⟩) 0 0).ownBlock ∨ (Value.slice A n cap).ownBlock = some s) (e : (Value.slice A n cap).ownBlock = some b) : b = g ∨ b = s := by
  rcases ha with h | h
  · left; rw [e] at h; simpa [Value.ownBlock] using h
  · right; rw [e] at h; simpa using h
theorem grown_from {w1 W w2 : World} {g : Nat} (hW : Below w1.heap.size w1 W) (hg : W.grownBy w2 (Value.slice (some ⟨g, 0, none⟩) 0 0).ownBlock) : (∀ b, b < w1.heap.size → b ≠ g → w2.heap[b]? = w1.heap[b]?) ∧ W.heap.size ≤ w2.heap.size ∧ w1.heap.size ≤ W.heap.size :=
  ⟨fun b hb hne => (hg.block b (Nat.lt_of_lt_of_le hb hW.size) (fun e => hne (by simpa [Value.ownBlock] using e))).trans (hW.block b hb), hg.size, hW.size⟩
theorem grown_kept {W w2 : World} {g : Nat} (hg : W.grownBy w2 (Value.slice (some ⟨g, 0, none⟩) 0 0).ownBlock) : ∀ k, k < W.heap.size → k ≠ g → w2.heap[k]? = W.heap[k]? :=
  fun k hk hne => hg.block k hk (fun e => hne (by simpa [Value.ownBlock] using e))

set_option maxHeartbeats 4000000 in
theorem l2Copy_any (v0 v1 vl : Value) (d : DiskM) (w : World) (h : DiskR w v0 v1 vl d) (hs : DiskShort d) :
    Calls Tryz.prog 72 #[.agg #[v0, v1, vl]] w (NewDisk w d) := by
  obtain ⟨i0, hi, hz0, hz1, hz2⟩ := info_parts infoStr
  obtain ⟨j0, hj, hy0, hy1, hy2⟩ := info_parts infoLate
  have HD := Lib.hid h
  have HS := Lib.hid hs
  clear h hs
  have hn0 := HS.out.n0
  have hn1 := HS.out.n1
  have hnl := HS.out.nl
  go_enter Tryz.func72, Tryz.ntmps72
  go_wp2_with fail
  obtain ⟨hA, hR, hsz, hB⟩ := box2 w #[v0, v1, vl] #[.slice none 0 0, .slice none 0 0, .slice none 0 0] 39 39
  have HR0 : Reg w v0 v1 vl ((w.alloc (.cells #[v0, v1, vl] 39)).alloc (.cells #[.slice none 0 0, .slice none 0 0, .slice none 0 0] 39)) := ⟨hB, hA⟩
  have hR0 : Box ((w.alloc (.cells #[v0, v1, vl] 39)).alloc (.cells #[.slice none 0 0, .slice none 0 0, .slice none 0 0] 39)) (w.heap.size + 1) [.slice none 0 0, .slice none 0 0, .slice none 0 0] := hR
  clear hA hB hR
  generalize hw0 : ((w.alloc (.cells #[v0, v1, vl] 39)).alloc (.cells #[.slice none 0 0, .slice none 0 0, .slice none 0 0] 39)) = w0 at HR0 hsz hR0 ⊢
  clear hw0
  go_region_held3 (fun w' => w'.cell? ⟨w.heap.size, 0, none⟩ = some v0 ∧ w'.cell? ⟨w.heap.size, 1, none⟩ = some v1 ∧ w'.cell? ⟨w.heap.size, 2, none⟩ = some vl ∧ Reg w v0 v1 vl w')
    (first
      | (go_split_ands; exact Reg.all (by repeat (first | with_reducible assumption | with_reducible apply Reg.drew | with_reducible apply Reg.alloc | with_reducible apply Reg.setCell))))
    (first
      | (refine step_append_fresh _ (by rfl) _ _ _ (by rfl) (w.heap.size + 2) 9 i0 _ 1 16 Tryz.underlying22 hi hz0 hz1 hz2 rfl (by omega) (.slice (some ⟨_, 0, none⟩) 0 0) 0 [] (by rfl) (own_empty (by repeat (first | with_reducible assumption | with_reducible apply At.drew | (with_reducible refine At.new ?_; first | with_reducible rfl | omega | (simp; done) | (simp; omega)) | with_reducible apply At.alloc)) (by first | omega | (simp <;> omega)))
          v0 d.s0.length (scs d.s0) (by rfl) (HD.out.r0.below (Reg.below (v0 := v0) (v1 := v1) (vl := vl) (by repeat (first | with_reducible assumption | with_reducible apply Reg.drew | with_reducible apply Reg.alloc))) HD.out.l0) (scs_one _) (by unfold maxLen; omega) (by omega) (by first | omega | (simp <;> omega)) ?_
         intro A0 cp0 w1 ho0 hg0 ha0
         have hreg0 : Reg w v0 v1 vl w1 := Reg.grown (by repeat (first | with_reducible assumption | with_reducible apply Reg.drew | with_reducible apply Reg.alloc)) hg0 (fun g e => by simp [Value.ownBlock] at e; omega)
         have hres0 : Box w1 (w.heap.size + 1) [.slice none 0 0, .slice none 0 0, .slice none 0 0] := box_grown (B := w.heap.size + 2) (by repeat (first | with_reducible assumption | with_reducible apply Box.drew | with_reducible apply Box.alloc)) hg0 (fun g e => by simp [Value.ownBlock] at e; omega) (by omega)
         have hk0 := grown_kept hg0
         have kp0 := grown_from (w1 := w0) (by repeat (first | with_reducible exact Below.refl _ _ | with_reducible apply Below.drew | with_reducible refine Below.alloc ?_ (by simp <;> omega) _)) hg0
         have sz0 := kp0.2
         try simp at sz0)
      | (refine step_append_fresh _ (by rfl) _ _ _ (by rfl) (w.heap.size + 2) 9 i0 _ 1 16 Tryz.underlying22 hi hz0 hz1 hz2 rfl (by omega) (.slice (some ⟨_, 0, none⟩) 0 0) 0 [] (by rfl) (own_empty (by repeat (first | with_reducible assumption | with_reducible apply At.drew | (with_reducible refine At.new ?_; first | with_reducible rfl | omega | (simp; done) | (simp; omega)) | with_reducible apply At.alloc | with_reducible refine At.grown ?_ hk0 (by omega))) (by first | omega | (simp <;> omega)))
          v1 d.s1.length (scs d.s1) (by rfl) (HD.out.r1.below (Reg.below (v0 := v0) (v1 := v1) (vl := vl) (by repeat (first | with_reducible assumption | with_reducible apply Reg.drew | with_reducible apply Reg.alloc))) HD.out.l1) (scs_one _) (by unfold maxLen; omega) (by omega) (by first | omega | (simp <;> omega)) ?_
         intro A1 cp1 w2 ho1 hg1 ha1
         have hreg1 : Reg w v0 v1 vl w2 := Reg.grown (by repeat (first | with_reducible assumption | with_reducible apply Reg.drew | with_reducible apply Reg.alloc)) hg1 (fun g e => by simp [Value.ownBlock] at e; omega)
         have hres1 : Box w2 (w.heap.size + 1) [.slice none 0 0, .slice none 0 0, .slice none 0 0] := box_grown (B := w.heap.size + 2) (by repeat (first | with_reducible assumption | with_reducible apply Box.drew | with_reducible apply Box.alloc)) hg1 (fun g e => by simp [Value.ownBlock] at e; omega) (by omega)
         have hk1 := grown_kept hg1
         have kp1 := grown_from (w1 := w1) (by repeat (first | with_reducible exact Below.refl _ _ | with_reducible apply Below.drew | with_reducible refine Below.alloc ?_ (by simp <;> omega) _)) hg1
         have sz1 := kp1.2
         try simp at sz1)
      | (refine step_append_fresh _ (by rfl) _ _ _ (by rfl) (w.heap.size + 2) 81 j0 _ 3 32 Tryz.underlying37 hj hy0 hy1 hy2 rfl (by omega) (.slice (some ⟨_, 0, none⟩) 0 0) 0 [] (by rfl) (own_empty (by repeat (first | with_reducible assumption | with_reducible apply At.drew | (with_reducible refine At.new ?_; first | with_reducible rfl | omega | (simp; done) | (simp; omega)) | with_reducible apply At.alloc | with_reducible refine At.grown ?_ hk1 (by omega) | with_reducible refine At.grown ?_ hk0 (by omega))) (by first | omega | (simp <;> omega)))
          vl d.late.length (lcs d.late) (by rfl) (HD.out.rl.below (Reg.below (v0 := v0) (v1 := v1) (vl := vl) (by repeat (first | with_reducible assumption | with_reducible apply Reg.drew | with_reducible apply Reg.alloc))) HD.out.ll) (lcs_one _) (by unfold maxLen; omega) (by omega) (by first | omega | (simp <;> omega)) ?_
         intro A2 cp2 w3 ho2 hg2 ha2
         have hreg2 : Reg w v0 v1 vl w3 := Reg.grown (by repeat (first | with_reducible assumption | with_reducible apply Reg.drew | with_reducible apply Reg.alloc)) hg2 (fun g e => by simp [Value.ownBlock] at e; omega)
         have hres2 : Box w3 (w.heap.size + 1) [.slice none 0 0, .slice none 0 0, .slice none 0 0] := box_grown (B := w.heap.size + 2) (by repeat (first | with_reducible assumption | with_reducible apply Box.drew | with_reducible apply Box.alloc)) hg2 (fun g e => by simp [Value.ownBlock] at e; omega) (by omega)
         have hk2 := grown_kept hg2
         have kp2 := grown_from (w1 := w2) (by repeat (first | with_reducible exact Below.refl _ _ | with_reducible apply Below.drew | with_reducible refine Below.alloc ?_ (by simp <;> omega) _)) hg2
         have sz2 := kp2.2
         try simp at sz2
         have r0 := hres2.cell 0 rfl
         have r1 := hres2.cell 1 rfl
         have r2 := hres2.cell 2 rfl
         have f0 := hres2.open_ 0
         have f1 := hres2.open_ 1
         have f2 := hres2.open_ 2))
  all_goals
    have O0 := Lib.hid (show w3.ownsRow (w.heap.size + 2) 9 1 (.slice A0 d.s0.length cp0) d.s0.length (scs d.s0) from by
      rw [Nat.zero_add, List.nil_append] at ho0
      rw [Nat.zero_add] at ha0
      refine own_kept (own_kept ho0 (w' := w2) fun b e => kp1.1 b (ho0.lt b e).2 ?_) (w' := w3) fun b e => kp2.1 b ?_ ?_
      · have h1 := (ho0.lt b e).2; have h2 := loc ha0 e; (try simp at h2); omega
      · have h1 := (ho0.lt b e).2; omega
      · have h1 := (ho0.lt b e).2; have h2 := loc ha0 e; (try simp at h2); omega)
    have O1 := Lib.hid (show w3.ownsRow (w.heap.size + 2) 9 1 (.slice A1 d.s1.length cp1) d.s1.length (scs d.s1) from by
      rw [Nat.zero_add, List.nil_append] at ho1
      rw [Nat.zero_add] at ha1
      refine own_kept ho1 (w' := w3) fun b e => kp2.1 b (ho1.lt b e).2 ?_
      have h1 := (ho1.lt b e).2; have h2 := loc ha1 e; (try simp at h2); omega)
    have O2 := Lib.hid (show w3.ownsRow (w.heap.size + 2) 81 3 (.slice A2 d.late.length cp2) d.late.length (lcs d.late) from by
      rw [Nat.zero_add, List.nil_append] at ho2
      exact ho2)
    have P01 := Lib.hid (show Apart (.slice A0 d.s0.length cp0) (.slice A1 d.s1.length cp1) from fun b e e' => by
      rw [Nat.zero_add] at ho0 ha0 ha1
      have h1 := (ho0.lt b e).2; have h2 := loc ha0 e; have h3 := loc ha1 e'; (try simp at h2); (try simp at h3); omega)
    have P02 := Lib.hid (show Apart (.slice A0 d.s0.length cp0) (.slice A2 d.late.length cp2) from fun b e e' => by
      rw [Nat.zero_add] at ho0 ha0 ha2
      have h1 := (ho0.lt b e).2; have h2 := loc ha0 e; have h3 := loc ha2 e'; (try simp at h2); (try simp at h3); omega)
    have P12 := Lib.hid (show Apart (.slice A1 d.s1.length cp1) (.slice A2 d.late.length cp2) from fun b e e' => by
      rw [Nat.zero_add] at ho1 ha1 ha2
      have h1 := (ho1.lt b e).2; have h2 := loc ha1 e; have h3 := loc ha2 e'; (try simp at h2); (try simp at h3); omega)
    clear ho0 ho1 ho2 ha0 ha1 ha2 hg0 hg1 hg2 hk0 hk1 hk2 kp0 kp1 kp2 sz0 sz1 sz2
    go_wp2
    have q1 := hres2.set 0 (.slice A0 d.s0.length cp0)
    have q2 := q1.set 1 (.slice A1 d.s1.length cp1)
    have q3 := q2.set 2 (.slice A2 d.late.length cp2)
    refine bodyPost_ret (v := .agg #[.slice A0 d.s0.length cp0, .slice A1 d.s1.length cp1, .slice A2 d.late.length cp2]) (by simp [results, Tryz.results72, go_sem, q1.cell 0 rfl, q2.cell 1 rfl, q3.cell 2 rfl]) rfl ⟨_, _, _, rfl, ⟨?_, ?_, ?_, P01.out, P02.out, P12.out⟩, ?_⟩
    · exact own_base (ownsRow_setCell_below (ownsRow_setCell_below (ownsRow_setCell_below O0.out (by simp) _) (by simp) _) (by simp) _) (by omega)
    · exact own_base (ownsRow_setCell_below (ownsRow_setCell_below (ownsRow_setCell_below O1.out (by simp) _) (by simp) _) (by simp) _) (by omega)
    · exact own_base (ownsRow_setCell_below (ownsRow_setCell_below (ownsRow_setCell_below O2.out (by simp) _) (by simp) _) (by simp) _) (by omega)
    · exact ((hreg2.below.setCell (by simp) _).setCell (by simp) _).setCell (by simp) _
end Go.Proofs.YtobjgdnmlibofaaGreat
