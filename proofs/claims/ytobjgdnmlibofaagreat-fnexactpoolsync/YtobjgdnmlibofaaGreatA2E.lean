/-
  Pairs of lists of strings: compared, sized, marked, asked for marks.
-/
import Derived.Test.YtobjgdnmlibofaaGreatA2
set_option maxRecDepth 100000
namespace Go.Proofs.YtobjgdnmlibofaaGreat
open Go.ChangeShapes Go.WideShapes Go.ChangeAt Go.RowKit Go.Proofs.Palim

set_option maxHeartbeats 400000 in
theorem eqStringSA2_same (a0 a1 b0 b1 : Value) (s0 s1 : List ByteArray) (w : World) (h0 : Sl w 1 a0 s0.length (scs s0)) (h1 : Sl w 1 a1 s1.length (scs s1)) (k0 : Sl w 1 b0 s0.length (scs s0)) (k1 : Sl w 1 b1 s1.length (scs s1))
    (ha0 : ∀ b, a0.ownBlock = some b → b < w.heap.size) (ha1 : ∀ b, a1.ownBlock = some b → b < w.heap.size) (hb0 : ∀ b, b0.ownBlock = some b → b < w.heap.size) (hb1 : ∀ b, b1.ownBlock = some b → b < w.heap.size) (hs0 : s0.length ≤ 1048576) (hs1 : s1.length ≤ 1048576) :
    Calls Tryz.prog 67 #[.agg #[a0, a1], .agg #[b0, b1]] w fun e w' => e = .returned (.bool true) ∧ Below w.heap.size w w' := by
  have hnot : ∀ (x : Bool) (w : World), (Op.unary .not (.bool x)).run Tryz.prog w = .ok (.bool (!x)) w := fun _ _ => rfl
  have H0 := Lib.hid h0
  have H1 := Lib.hid h1
  have K0 := Lib.hid k0
  have K1 := Lib.hid k1
  have HA0 := Lib.hid ha0
  have HA1 := Lib.hid ha1
  have HB0 := Lib.hid hb0
  have HB1 := Lib.hid hb1
  clear h0 h1 k0 k1 ha0 ha1 hb0 hb1
  go_enter Tryz.func67, Tryz.ntmps67
  go_wp2
  go_loopw [5] (fun i wr => ∃ (j : Nat), i = .int .i64 (j : Int) ∧ Hid (Box wr w.heap.size [a0, a1]) ∧ Hid (Box wr (w.heap.size + 1) [b0, b1]) ∧ Hid (Below w.heap.size w wr) ∧ (j = 0 ∨ j = 1 ∨ j = 2)) (fun i _ => 2 - (intOf i).toNat)
  case atStart => exact ⟨0, rfl, Lib.hid ((box_new _ _ _).alloc _), Lib.hid (by simpa using box_new (w.alloc _) _ _), Lib.hid (((Below.refl _ _).alloc (Nat.le_refl _) _).alloc (by simp) _), Or.inl rfl⟩
  case round =>
    obtain ⟨j, rfl, HA, HC, HB, hcase⟩ := hrel
    obtain ⟨x0, x1⟩ := HA.out.two
    obtain ⟨y0, y1⟩ := HC.out.two
    rcases hcase with rfl | rfl | rfl
    · have HS := Lib.hid (show Sl wr.drew 1 a0 s0.length (scs s0) from H0.out.below HB.out.drew HA0.out)
      have HT := Lib.hid (show Sl wr.drew 1 b0 s0.length (scs s0) from K0.out.below HB.out.drew HB0.out)
      go_wp2_with fail
      go_region_held3 (fun w' => w'.cell? ⟨w.heap.size, 0, none⟩ = some a0 ∧ w'.cell? ⟨w.heap.size + 1, 0, none⟩ = some b0)
        (first
          | go_keep
          | (go_split_ands; exact ⟨by assumption, by assumption⟩))
        ((go_at_call 116; ((refine (eqStringS_same a0 b0 s0 _ HS.out HT.out hs0).mono ?_); rintro e w2 ⟨rfl, q, rfl⟩)))
      all_goals
        go_wp2
        go_roundw
        case rel => exact ⟨1, by go_num, HA, HC, Lib.hid ⟨HB.out.os, HB.out.tape, HB.out.output, HB.out.size, HB.out.block⟩, by simp⟩
        case measure => simp [intOf]
    · have HS := Lib.hid (show Sl wr.drew 1 a1 s1.length (scs s1) from H1.out.below HB.out.drew HA1.out)
      have HT := Lib.hid (show Sl wr.drew 1 b1 s1.length (scs s1) from K1.out.below HB.out.drew HB1.out)
      go_wp2_with fail
      go_region_held3 (fun w' => w'.cell? ⟨w.heap.size, 1, none⟩ = some a1 ∧ w'.cell? ⟨w.heap.size + 1, 1, none⟩ = some b1)
        (first
          | go_keep
          | (go_split_ands; exact ⟨by assumption, by assumption⟩))
        ((go_at_call 116; ((refine (eqStringS_same a1 b1 s1 _ HS.out HT.out hs1).mono ?_); rintro e w2 ⟨rfl, q, rfl⟩)))
      all_goals
        go_wp2
        go_roundw
        case rel => exact ⟨2, by go_num, HA, HC, Lib.hid ⟨HB.out.os, HB.out.tape, HB.out.output, HB.out.size, HB.out.block⟩, by simp⟩
        case measure => simp [intOf]
    · go_wp2
      go_ret
      exact ⟨rfl, HB.out⟩

set_option maxHeartbeats 400000 in
theorem szStringSA2_any (a0 a1 : Value) (s0 s1 : List ByteArray) (left : Int) (w : World) (h0 : Sl w 1 a0 s0.length (scs s0)) (h1 : Sl w 1 a1 s1.length (scs s1)) (ha0 : ∀ b, a0.ownBlock = some b → b < w.heap.size) (ha1 : ∀ b, a1.ownBlock = some b → b < w.heap.size)
    (hz0 : ∀ s ∈ s0, s.size ≤ maxLen) (hz1 : ∀ s ∈ s1, s.size ≤ maxLen) (hl0 : 0 ≤ left) (hl1 : left ≤ 1048576) :
    Calls Tryz.prog 45 #[.agg #[a0, a1], .int .i64 left] w fun e w' => (∃ r : Int, e = .returned (.int .i64 r) ∧ (r = -1 ∨ 0 ≤ r ∧ r + (s0.length + tot s0 + (s1.length + tot s1) : Nat) = left)) ∧ Below w.heap.size w w' := by
  have H0 := Lib.hid h0
  have H1 := Lib.hid h1
  have HA0 := Lib.hid ha0
  have HA1 := Lib.hid ha1
  have HZ0 := Lib.hid hz0
  have HZ1 := Lib.hid hz1
  obtain ⟨m0, HM0⟩ : ∃ m, Hid (s0.length + tot s0 = m) := ⟨_, Lib.hid rfl⟩
  obtain ⟨m1, HM1⟩ : ∃ m, Hid (s1.length + tot s1 = m) := ⟨_, Lib.hid rfl⟩
  rw [HM0.out, HM1.out]
  clear h0 h1 ha0 ha1 hz0 hz1
  go_enter Tryz.func45, Tryz.ntmps45
  go_wp2
  go_loopw [1, 5] (fun x i wr => ∃ (j : Nat) (l : Int), x = .int .i64 l ∧ i = .int .i64 (j : Int) ∧ Hid (Box wr w.heap.size [a0, a1]) ∧ Hid (Below w.heap.size w wr) ∧ ((j = 0 ∧ l = left) ∨ (j = 1 ∧ 0 ≤ l ∧ l + m0 = left) ∨ (j = 2 ∧ 0 ≤ l ∧ l + (m0 + m1) = left))) (fun _ i _ => 2 - (intOf i).toNat)
  case atStart => exact ⟨0, left, rfl, rfl, Lib.hid (box_new _ _ _), Lib.hid ((Below.refl _ _).alloc (Nat.le_refl _) _), Or.inl ⟨rfl, rfl⟩⟩
  case round =>
    obtain ⟨j, l, rfl, rfl, HA, HB, hcase⟩ := hrel
    obtain ⟨x0, x1⟩ := HA.out.two
    have hlb : 0 ≤ l := by omega
    have hlc : l ≤ 1048576 := by omega
    rcases hcase with ⟨rfl, hl⟩ | ⟨rfl, _, hl⟩ | ⟨rfl, _, hl⟩
    · subst hl
      have hl := hl0
      have HS := Lib.hid (H0.out.below HB.out HA0.out)
      go_wp2_with fail
      refine (szStringS_any a0 s0 _ _ HS.out HZ0.out hlb hlc).mono ?_
      rintro e w2 ⟨r, rfl, rfl, hr⟩
      rw [HM0.out] at hr
      rcases hr with rfl | ⟨hr0, hr1⟩
      · clear HS HA hl
        go_wp2
        go_ret
        exact ⟨⟨-1, rfl, Or.inl rfl⟩, HB.out⟩
      · have hr2 : ¬ r < 0 := by omega
        go_wp2
        go_roundw
        case rel => exact ⟨1, r, rfl, by go_num, HA, HB, Or.inr (Or.inl ⟨rfl, by omega, by omega⟩)⟩
        case measure => simp [intOf]
    · 
      have HS := Lib.hid (H1.out.below HB.out HA1.out)
      go_wp2_with fail
      refine (szStringS_any a1 s1 l _ HS.out HZ1.out hlb hlc).mono ?_
      rintro e w2 ⟨r, rfl, rfl, hr⟩
      rw [HM1.out] at hr
      rcases hr with rfl | ⟨hr0, hr1⟩
      · clear HS HA hl
        go_wp2
        go_ret
        exact ⟨⟨-1, rfl, Or.inl rfl⟩, HB.out⟩
      · have hr2 : ¬ r < 0 := by omega
        go_wp2
        go_roundw
        case rel => exact ⟨2, r, rfl, by go_num, HA, HB, Or.inr (Or.inr ⟨rfl, by omega, by omega⟩)⟩
        case measure => simp [intOf]
    · go_wp2
      go_ret
      exact ⟨⟨l, rfl, Or.inr ⟨hlb, by omega⟩⟩, HB.out⟩
end Go.Proofs.YtobjgdnmlibofaaGreat
