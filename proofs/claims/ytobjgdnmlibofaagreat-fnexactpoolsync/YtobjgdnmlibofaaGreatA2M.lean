/-
  Pairs of lists of strings: marked, and asked for marks.
-/
import Derived.Test.YtobjgdnmlibofaaGreatA2
set_option maxRecDepth 100000
namespace Go.Proofs.YtobjgdnmlibofaaGreat
open Go.ChangeShapes Go.WideShapes Go.ChangeAt Go.RowKit Go.Proofs.Palim

def MarkedPair (k : Nat) (v0 v1 : Value) (base n0 n1 : Nat) (w : World) (e : Ending) (w' : World) : Prop :=
  e = .returned (.int .i64 ((k + n0 + n1 : Nat) : Int)) ∧ w'.ownsRow base 9 1 v0 n0 (scs (marks k n0)) ∧ w'.ownsRow base 9 1 v1 n1 (scs (marks (k + n0) n1)) ∧ Turned (fun b => v0.ownBlock = some b ∨ v1.ownBlock = some b) w w'

set_option maxHeartbeats 400000 in
theorem markStringSA2_any (v0 v1 : Value) (n0 n1 k base : Nat) (xs0 xs1 : List Value) (w : World) (h0 : w.ownsRow base 9 1 v0 n0 xs0) (h1 : w.ownsRow base 9 1 v1 n1 xs1) (hap : Apart v0 v1) (hs0 : n0 ≤ 1048576) (hs1 : n1 ≤ 1048576) (hk0 : 1 ≤ k) (hk1 : k ≤ 90000000) :
    Calls Tryz.prog 77 #[.agg #[v0, v1], .int .i64 (k : Int)] w (MarkedPair k v0 v1 base n0 n1 w) := by
  have H0 := Lib.hid h0
  have H1 := Lib.hid h1
  have HP := Lib.hid hap
  clear h0 h1 hap
  go_enter Tryz.func77, Tryz.ntmps77
  go_wp2
  go_loopw [1, 5] (fun x i wr => ∃ (j kk : Nat), x = .int .i64 (kk : Int) ∧ i = .int .i64 (j : Int) ∧ Hid (Box wr w.heap.size [v0, v1]) ∧ Hid (Turned (fun b => v0.ownBlock = some b ∨ v1.ownBlock = some b) w wr) ∧
      ((j = 0 ∧ kk = k ∧ Hid (wr.ownsRow base 9 1 v0 n0 xs0) ∧ Hid (wr.ownsRow base 9 1 v1 n1 xs1)) ∨
       (j = 1 ∧ kk = k + n0 ∧ Hid (wr.ownsRow base 9 1 v0 n0 (scs (marks k n0))) ∧ Hid (wr.ownsRow base 9 1 v1 n1 xs1)) ∨
       (j = 2 ∧ kk = k + n0 + n1 ∧ Hid (wr.ownsRow base 9 1 v0 n0 (scs (marks k n0))) ∧ Hid (wr.ownsRow base 9 1 v1 n1 (scs (marks (k + n0) n1)))))) (fun _ i _ => 2 - (intOf i).toNat)
  case atStart => exact ⟨0, k, rfl, rfl, Lib.hid (box_new _ _ _), Lib.hid (turned_of_below ((Below.refl _ _).alloc (Nat.le_refl _) _)), Or.inl ⟨rfl, rfl, Lib.hid (own_kept H0.out fun b e => Below.heap_alloc _ _ _ (H0.out.lt b e).2), Lib.hid (own_kept H1.out fun b e => Below.heap_alloc _ _ _ (H1.out.lt b e).2)⟩⟩
  case round =>
    obtain ⟨j, kk, rfl, rfl, HA, HT, hcase⟩ := hrel
    obtain ⟨x0, x1⟩ := HA.out.two
    rcases hcase with ⟨rfl, rfl, HO0, HO1⟩ | ⟨rfl, hkk, HO0, HO1⟩ | ⟨rfl, hkk, HO0, HO1⟩
    · go_wp2_with fail
      refine (markStringS_any v0 n0 kk base _ _ HO0.out hs0 hk0 (by omega)).mono ?_
      rintro e w2 ⟨rfl, ho, ht⟩
      have HA2 := Lib.hid (HA.out.turned ht (fun e => by have := (H0.out.lt _ e).2; omega))
      have HO1' := Lib.hid (own_kept HO1.out (w' := w2) (fun b e => ht.block b (HO1.out.lt b e).2 (fun e' => HP.out b e' e)))
      have HO0' := Lib.hid ho
      have HT' := Lib.hid (HT.out.trans (ht.mono (fun _ _ e => Or.inl e)))
      clear ho ht HO0 HO1 HA HT
      go_wp2
      go_roundw
      case rel => exact ⟨1, kk + n0, by go_num, by go_num, HA2, HT', Or.inr (Or.inl ⟨rfl, rfl, HO0', HO1'⟩)⟩
      case measure => simp [intOf]
    · have HK := Lib.hid hkk
      have hkk0 : 1 ≤ kk := by omega
      have hkk1 : kk ≤ 100000000 := by omega
      clear hkk
      go_wp2_with fail
      refine (markStringS_any v1 n1 kk base _ _ HO1.out hs1 hkk0 hkk1).mono ?_
      rintro e w2 ⟨rfl, ho, ht⟩
      have HA2 := Lib.hid (HA.out.turned ht (fun e => by have := (H1.out.lt _ e).2; omega))
      have HO0' := Lib.hid (own_kept HO0.out (w' := w2) (fun b e => ht.block b (HO0.out.lt b e).2 (fun e' => HP.out b e e')))
      have HO1' := Lib.hid ho
      have HT' := Lib.hid (HT.out.trans (ht.mono (fun _ _ e => Or.inr e)))
      clear ho ht HO0 HO1 HA HT
      go_wp2
      go_roundw
      case rel => exact ⟨2, kk + n1, by go_num, by go_num, HA2, HT', Or.inr (Or.inr ⟨rfl, by have := HK.out; omega, HO0', Lib.hid (HK.out ▸ HO1'.out)⟩)⟩
      case measure => simp [intOf]
    · have HK := Lib.hid hkk
      clear hkk
      go_wp2
      go_ret
      exact ⟨ret_int (by rw [HK.out]), HO0.out, HO1.out, HT.out⟩

set_option maxHeartbeats 400000 in
theorem heldStringSA2_any (v0 v1 : Value) (n0 n1 k : Nat) (w : World) (h0 : Sl w 1 v0 n0 (scs (marks k n0))) (h1 : Sl w 1 v1 n1 (scs (marks (k + n0) n1))) (ha0 : ∀ b, v0.ownBlock = some b → b < w.heap.size) (ha1 : ∀ b, v1.ownBlock = some b → b < w.heap.size) (hs0 : n0 ≤ 1048576) (hs1 : n1 ≤ 1048576) (hk0 : 1 ≤ k) (hk1 : k ≤ 90000000) :
    Calls Tryz.prog 82 #[.agg #[v0, v1], .int .i64 (k : Int)] w (HeldPost ((k + n0 + n1 : Nat) : Int) w) := by
  have H0 := Lib.hid h0
  have H1 := Lib.hid h1
  have HA0 := Lib.hid ha0
  have HA1 := Lib.hid ha1
  clear h0 h1 ha0 ha1
  go_enter Tryz.func82, Tryz.ntmps82
  go_wp2
  go_loopw [1, 5] (fun x i wr => ∃ (j kk : Nat), x = .int .i64 (kk : Int) ∧ i = .int .i64 (j : Int) ∧ Hid (Box wr w.heap.size [v0, v1]) ∧ w.heap.size + 1 ≤ wr.heap.size ∧ Hid (Below w.heap.size w wr) ∧ ((j = 0 ∧ kk = k) ∨ (j = 1 ∧ kk = k + n0) ∨ (j = 2 ∧ kk = k + n0 + n1))) (fun _ i _ => 2 - (intOf i).toNat)
  case atStart => exact ⟨0, k, rfl, rfl, Lib.hid (box_new _ _ _), by simp, Lib.hid ((Below.refl _ _).alloc (Nat.le_refl _) _), Or.inl ⟨rfl, rfl⟩⟩
  case round =>
    obtain ⟨j, kk, rfl, rfl, HA, hsz, HB, hcase⟩ := hrel
    obtain ⟨x0, x1⟩ := HA.out.two
    rcases hcase with ⟨rfl, rfl⟩ | ⟨rfl, hkk⟩ | ⟨rfl, hkk⟩
    · go_wp2_with fail
      refine (heldStringS_any v0 n0 kk _ (H0.out.below HB.out HA0.out) (fun b e => by have := HA0.out b e; omega) hs0 hk0 (by omega)).mono ?_
      rintro e w2 ⟨rfl, hb⟩
      have HA2 := Lib.hid (HA.out.below hb (by omega))
      have HB2 := Lib.hid (HB.out.trans (hb.mono (by omega)))
      have hsz2 : w.heap.size + 1 ≤ w2.heap.size := Nat.le_trans hsz hb.size
      clear hb HA HB hsz x0 x1
      have hnn : ¬ ((kk + n0 : Nat) : Int) < 0 := by omega
      go_wp2
      go_roundw
      case rel => exact ⟨1, kk + n0, by go_num, by go_num, HA2, hsz2, HB2, Or.inr (Or.inl ⟨rfl, rfl⟩)⟩
      case measure => simp [intOf]
    · have HK := Lib.hid hkk
      have hkk0 : 1 ≤ kk := by omega
      have hkk1 : kk ≤ 100000000 := by omega
      have HS1 := Lib.hid (show Sl wr 1 v1 n1 (scs (marks kk n1)) from by rw [HK.out]; exact H1.out.below HB.out HA1.out)
      clear hkk
      go_wp2_with fail
      refine (heldStringS_any v1 n1 kk _ HS1.out (fun b e => by have := HA1.out b e; omega) hs1 hkk0 hkk1).mono ?_
      rintro e w2 ⟨rfl, hb⟩
      have HA2 := Lib.hid (HA.out.below hb (by omega))
      have HB2 := Lib.hid (HB.out.trans (hb.mono (by omega)))
      have hsz2 : w.heap.size + 1 ≤ w2.heap.size := Nat.le_trans hsz hb.size
      clear hb HA HB hsz x0 x1 HS1
      have hnn : ¬ ((kk + n1 : Nat) : Int) < 0 := by omega
      go_wp2
      go_roundw
      case rel => exact ⟨2, kk + n1, by go_num, by go_num, HA2, hsz2, HB2, Or.inr (Or.inr ⟨rfl, by have := HK.out; omega⟩)⟩
      case measure => simp [intOf]
    · have HK := Lib.hid hkk
      clear hkk
      go_wp2
      go_ret
      exact ⟨ret_int (by rw [HK.out]), HB.out⟩
end Go.Proofs.YtobjgdnmlibofaaGreat
