/-
  The drawn inputs of chapter 1's laws: a short text; a short sealed text, torn or not.
-/
import Derived.Test.YtkghfdnbmidddaaDoorDrawText
import Derived.Test.YtkghfdnbmidddaaDoorSeal
import Derived.WalkKit
import Derived.ProofKit
import Derived.Lib.Hide
import Derived.Lib.Strings
import Derived.WalkSpells
import Derived.WalkSmall
import Derived.Laws.Pointers
import Derived.Deep.Draws
import Derived.Deep.RegionHeld3
namespace Go.Proofs.YtkghfdnbmidddaaDoor
open Go.ChangeShapes Go.WideShapes Go.ChangeAt Go.RowKit Go.Proofs.Palim

/-- A code that came in: its bytes lie in a block that is there. -/
def Code (w : World) (A : Option Addr) (n c : Nat) : Prop := n ≤ c ∧ n ≤ maxLen ∧ c ≤ maxLen ∧
  (n = 0 ∨ ∃ b off, A = some ⟨b, off, none⟩ ∧ b < w.heap.size ∧ ∀ i, i < n → ∃ x : UInt8, w.cell? ⟨b, off + i, none⟩ = some (.int .u8 (x.toNat : Int)))
theorem Code.below {w w' : World} {A : Option Addr} {n c : Nat} (h : Code w A n c) (hb : Below w.heap.size w w') : Code w' A n c := by
  obtain ⟨h1, h2, h3, h4⟩ := h
  refine ⟨h1, h2, h3, h4.imp id ?_⟩
  rintro ⟨b, off, rfl, hlt, hc⟩
  refine ⟨b, off, rfl, Nat.lt_of_lt_of_le hlt hb.size, fun i hi => ?_⟩
  obtain ⟨x, hx⟩ := hc i hi
  exact ⟨x, (hb.cell hlt).trans hx⟩

def OpenedPost (w : World) (e : Ending) (w' : World) : Prop :=
  e = .returned (.pointer (some ⟨w.heap.size, 0, none⟩)) ∧ Below w.heap.size w w' ∧ Rd w' w.heap.size 0

theorem opened {w : World} {A : Option Addr} {n c : Nat} (hn : n ≤ 2000) (h : n = 0 ∨ ∃ b off, A = some ⟨b, off, none⟩ ∧ b < w.heap.size ∧ ∀ i, i < n → ∃ x : UInt8, w.cell? ⟨b, off + i, none⟩ = some (.int .u8 (x.toNat : Int))) :
    Rd (w.alloc (.cells #[.slice A n c, .int .i64 0] 44)) w.heap.size 0 := by
  refine ⟨A, n, c, heap_alloc_new w _, hn, h.imp id ?_⟩
  rintro ⟨b, off, rfl, hlt, hc⟩
  refine ⟨b, off, rfl, hlt, fun i hi => ?_⟩
  obtain ⟨x, hx⟩ := hc i hi
  exact ⟨x, (World.cell?_alloc_lt w _ _ hlt).trans hx⟩

set_option maxHeartbeats 400000 in
theorem l19Open_any (A : Option Addr) (n c : Nat) (w : World) (h : Code w A n c) :
    Calls Tryd.prog 21 #[.slice A n c] w (OpenedPost w) := by
  obtain ⟨h1, h2, h3, h4⟩ := h
  have H4 := Lib.hid h4
  clear h4
  unfold maxLen at h2 h3
  by_cases hl : 2000 < n
  · go_enter Tryd.func21, Tryd.ntmps21
    go_wp2
    all_goals go_ret
    all_goals refine ⟨rfl, (Below.refl _ _).alloc (Nat.le_refl _) _, opened (by omega) ?_⟩
    all_goals
      right
      obtain ⟨b, off, rfl, hlt, hc⟩ := H4.out.resolve_left (by omega)
      exact ⟨b, off, rfl, hlt, fun i hi => hc i (by omega)⟩
  · go_enter Tryd.func21, Tryd.ntmps21
    go_wp2
    all_goals go_ret
    all_goals exact ⟨rfl, (Below.refl _ _).alloc (Nat.le_refl _) _, opened (by omega) H4.out⟩

def DrawnPost (L : Nat) (w : World) (e : Ending) (w' : World) : Prop := ∃ t : ByteArray, t.size ≤ L ∧ e = .returned (.string t) ∧ Below w.heap.size w w'

theorem below_dr {B : Nat} {a w : World} (h : Below B a w) (n : Nat) : Below B a (w.drewN n) := ⟨h.os, h.tape, h.output, h.size, h.block⟩
theorem below_of_reader {w w1 w2 : World} (hb : Below w.heap.size w w1) (hg : w1.grownBy w2 (some w.heap.size)) : Below w.heap.size w w2 :=
  hb.grown hg hb.size (fun k h => by injection h; omega)

set_option maxHeartbeats 400000 in
theorem drawSumOf_any (A : Option Addr) (n c : Nat) (w : World) (h : Code w A n c) :
    Calls Tryd.prog 8 #[.slice A n c] w (DrawnPost 18 w) := by
  have H := Lib.hid h
  clear h
  go_enter Tryd.func8, Tryd.ntmps8
  go_wp2_with fail
  refine (l19Open_any A n c _ H.out).mono ?_
  rintro e w1 ⟨rfl, hb, hr⟩
  have HR := Lib.hid hr
  clear hr
  go_wp2_with fail
  refine (l1Text_any _ 0 _ HR.out (by omega)).mono ?_
  rintro e w2 ⟨t, k', ht, hk', rfl, hg, hr2⟩
  have hb2 := below_of_reader hb hg
  clear hr2
  go_wp2
  go_ret
  exact ⟨t, ht, rfl, hb2⟩

theorem sealB_size (t : ByteArray) (h : t.size ≤ 18) : 1 ≤ (sealB t).size ∧ (sealB t).size ≤ 40 := by
  have hb := sumOf_bd t
  have hl := Lib.itoa_length_le (sumOf t) (by omega) (by omega)
  unfold sealB
  rw [if_neg (by omega)]
  show 1 ≤ (Lib.itoa (sumOf t) ++ 58 :: t.data.toList).toArray.size ∧ (Lib.itoa (sumOf t) ++ 58 :: t.data.toList).toArray.size ≤ 40
  have ht : t.data.toList.length = t.size := by simp
  rw [List.size_toArray, List.length_append, List.length_cons, ht]
  omega

theorem extract_le (s : ByteArray) (a b : Nat) : (s.extract a b).size ≤ s.size := by
  rw [ByteArray.size_extract]; omega

/-- What a sealed text is torn with. -/
def tearBits : List ByteArray := [⟨#[]⟩, ⟨#[48]⟩, ⟨#[58]⟩, ⟨#[97]⟩]
theorem tearBits_size : ∀ s ∈ tearBits, s.size ≤ 1 := by decide

set_option maxHeartbeats 1000000 in
theorem drawSumOpen_any (A : Option Addr) (n c : Nat) (w : World) (h : Code w A n c) :
    Calls Tryd.prog 16 #[.slice A n c] w (DrawnPost 100 w) := by
  have H := Lib.hid h
  clear h
  go_enter Tryd.func16, Tryd.ntmps16
  go_wp2_with fail
  refine (l19Open_any A n c _ H.out).mono ?_
  rintro e w1 ⟨rfl, hb, hr⟩
  have HR := Lib.hid hr
  clear hr
  go_wp2_with fail
  refine (l1Text_any _ 0 _ HR.out (by omega)).mono ?_
  rintro e w2 ⟨t, k2, ht, hk2, rfl, hg, hr2⟩
  have hb2 := below_of_reader hb hg
  have HR2 := Lib.hid hr2
  clear hr2 hg hb
  go_wp2_with fail
  refine (specSeal_any t _ (by unfold maxLen; omega)).mono ?_
  rintro e w3 ⟨rfl, hb3⟩
  have hsz := sealB_size t ht
  have hR3 : Rd w3 w.heap.size k2 := HR2.out.kept fun b hlt => hb3.block b (by have := HR2.out.lt; omega)
  have hb23 : Below w.heap.size w w3 := hb2.trans (hb3.mono hb2.size)
  have HR3 := Lib.hid hR3
  clear hb2 hb3 hR3
  obtain ⟨u, hu⟩ : ∃ u, sealB t = u := ⟨_, rfl⟩
  rw [hu] at hsz
  rw [hu]
  clear hu
  go_wp2_with fail
  refine (pick_any _ k2 2 _ HR3.out (by omega) (by omega)).mono ?_
  rintro e w4 ⟨r4, q4, hr4, rfl, rfl⟩
  have HR4 := Lib.hid (HR3.out.next q4)
  have hg4 := grown_pick (World.grownBy.refl w3 (some w.heap.size)) (.int .i64 ((k2 : Int) + 1)) q4
  have hb4 := below_of_reader hb23 hg4
  have HB4 := Lib.hid hb4
  clear hg4 hb4
  generalize (w3.setCell ⟨w.heap.size, 1, none⟩ (.int .i64 ((k2 : Int) + 1))).drewN q4 = w4 at *
  by_cases h0 : r4 = 0
  · subst h0
    go_wp2
    go_ret
    exact ⟨u, by omega, rfl, HB4.out⟩
  · have h0' : ((r4 : Int) == 0) = false := by simpa using h0
    go_wp2_with fail
    refine (pick_any _ (k2 + 1) u.size _ HR4.out (by omega) (by omega)).mono ?_
    rintro e w5 ⟨k, q5, hk, rfl, rfl⟩
    have HR5 := Lib.hid (HR4.out.next q5)
    have HB5 := Lib.hid (below_of_reader HB4.out (grown_pick (World.grownBy.refl w4 (some w.heap.size)) (.int .i64 (((k2 + 1 : Nat) : Int) + 1)) q5))
    generalize (w4.setCell ⟨w.heap.size, 1, none⟩ (.int .i64 (((k2 + 1 : Nat) : Int) + 1))).drewN q5 = w5 at *
    have hku : k < u.size := by omega
    clear hk h0 h0' hr4
    have hk1 : (k : Int) ≤ (u.size : Int) := by omega
    have hk0 : (0 : Int) ≤ (k : Int) := Int.natCast_nonneg _
    obtain ⟨p, hp⟩ : ∃ p, u.extract 0 k = p := ⟨_, rfl⟩
    have hps : p.size ≤ 40 := by rw [← hp]; exact Nat.le_trans (extract_le u 0 k) hsz.2
    go_wp2_with fail
    go_region_held3 (fun _ => True)
      (exact trivial)
      (first
        | (go_at_call 30; ((refine (of_any _ (k2 + 1 + 1) w5.heap.size 4 tearBits 9 (0, 0) _ (by exact HR5.out.alloc _) (by omega) (by exact heap_alloc_new w5 _) (by have := HR5.out.lt; omega) rfl (by omega) (by omega)).mono ?_); rintro e w6 ⟨x, q6, hx, rfl, rfl⟩; have hx1 := tearBits_size x hx; have hx2 : ¬ 9223372036854775807 < p.size + x.size := by omega))
        | (go_at_call 29; ((refine (pick_any _ (k2 + 1 + 1 + 1) 2 _ (by exact (HR5.out.alloc _).next _) (by omega) (by omega)).mono ?_); rintro e w7 ⟨j, q7, hj, rfl, rfl⟩; have hj1 : j < 2 := (by omega); have hj2 : IntKind.i64.wrap ((k : Int) + (j : Int)) = (k : Int) + (j : Int) := IntWalk.i64_in _ (by omega); have hj3 : (0 : Int) ≤ (k : Int) + (j : Int) := (by omega); have hj4 : (k : Int) + (j : Int) ≤ (u.size : Int) := (by omega); have hj5 : ((k : Int) + (j : Int)).toNat = k + j := (by omega); obtain ⟨p2, hp2⟩ : ∃ p2, u.extract (k + j) u.size = p2 := ⟨_, rfl⟩; have hps2 : p2.size ≤ 40 := (by rw [← hp2]; exact Nat.le_trans (extract_le u _ _) hsz.2); have hx3 : ¬ 9223372036854775807 < p.size + x.size + p2.size := (by omega))))
    have hsz3 : (p ++ x ++ p2).size ≤ 100 := by rw [ByteArray.size_append, ByteArray.size_append]; omega
    have HS3 := Lib.hid hsz3
    clear hsz3 hx2 hx3 hj2 hj5 hp hp2
    go_wp2
    go_ret
    refine ⟨p ++ x ++ p2, HS3.out, rfl, ?_⟩
    exact below_dr ((below_dr ((HB5.out.alloc HB5.out.size _).setCell (Nat.le_refl _) _) _).setCell (Nat.le_refl _) _) _
end Go.Proofs.YtkghfdnbmidddaaDoor
