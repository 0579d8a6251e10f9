/-
  The function that reads bytes in hexadecimals and panics where it can't.
-/
import Derived.Test.YtgjlhokakcdpbaaGreatDoorUnhex
import Derived.WalkKit
import Derived.ProofKit
import Derived.Lib.Hide
import Derived.WalkSpells
import Derived.WalkSmall
import Derived.Deep.RegionHeld3
import Derived.Deep.RegionWith
import Derived.Deep.AppendLies
set_option maxRecDepth 100000
namespace Go.Proofs.YtgjlhokakcdpbaaGreatDoor
open Go.ChangeShapes Go.WideShapes Go.ChangeAt Go.RowKit Go.Proofs.Palim

theorem or16 : ∀ p, p < 16 → ∀ q, q < 16 → bits .or .u8 (IntKind.u8.wrap ((p : Nat) * 16 : Int)) ((q : Nat) : Int) = ((UInt8.ofNat (p * 16 + q)).toNat : Int) := by decide +kernel

def SumBytesPost (s : ByteArray) (w : World) (e : Ending) (w' : World) : Prop :=
  Below w.heap.size w w' ∧ ((∃ o, unhex s.data.toList = some o ∧ e = .returned (.string ⟨o.toArray⟩)) ∨ (unhex s.data.toList = none ∧ e = .panicked malformed))

set_option maxHeartbeats 1000000 in
theorem sumBytes_any (s : ByteArray) (w : World) (hs : s.size ≤ 1048576) (hg : HasTab w) :
    Calls Tryz.prog 201 #[.string s] w (SumBytesPost s w) := by
  obtain ⟨i0, hi, hz0, hz1, hz2⟩ := info_parts infoU8
  have hlg := hg.lt
  by_cases hodd : s.size % 2 = 1
  · have hm : (s.size : Int) % 2 = 1 := by omega
    have HU := Lib.hid (unhex_odd (l := s.data.toList) (by simpa using hodd))
    clear hodd
    go_enter Tryz.func201, Tryz.ntmps201
    go_wp2
    exact ⟨rfl, Below.refl _ _, Or.inr ⟨HU.out, rfl⟩⟩
  · have hm : (s.size : Int) % 2 = 0 := by omega
    obtain ⟨m, HM⟩ : ∃ m, Hid (s.size = 2 * m) := ⟨s.size / 2, Lib.hid (by omega)⟩
    have hd : (s.size : Int) / 2 = (m : Int) := by have := HM.out; omega
    have hm1 : m ≤ 1048576 := by have := HM.out; omega
    clear hodd
    go_enter Tryz.func201, Tryz.ntmps201
    go_wp2_with (first | (at_make; refine wpList_make_own _ rfl _ _ 22 rfl w.heap.size 5 i0 (.int .u8 0) 1 Tryz.underlying22 hi hz0 hz1 _ _ _ m rfl rfl (by omega) (by rw [hz2]; omega) (by unfold maxLen; omega) (Nat.le_refl _) ?_))
    intro w1 hown hgrow
    go_wp2
    go_loopw [3, 4] (fun v i wr => ∃ (k n : Nat) (o : List UInt8), n ≤ s.size ∧ i = .int .i64 n ∧ wr.ownsRow w.heap.size 5 1 v k (bcs o) ∧ Below w.heap.size w wr ∧ Hid (n = 2 * k) ∧ Hid (unhex (s.data.toList.take n) = some o)) (fun _ i _ => s.size - (intOf i).toNat)
    case atStart => exact ⟨0, 0, [], Nat.zero_le _, rfl, hown, (Below.refl _ _).grown hgrow (Nat.le_refl _) (fun _ h => by cases h), Lib.hid rfl, Lib.hid rfl⟩
    case round =>
      obtain ⟨k, n, o, hk, rfl, hown, hb, HK, HU⟩ := hrel
      have hgr : HasTab wr := hg.below hb hlg
      have hgd : HasTab wr.drew := hgr
      clear hgrow hgr
      by_cases hlt : n < s.size
      · have hlt2 : n + 1 < s.size := by have := HK.out; have := HM.out; omega
        have hkm : k < 1048576 := by have := HK.out; omega
        have hk1 : (n : Int) < (s.size : Int) := by omega
        have hk2 : (n : Int) + 1 < (s.size : Int) := by omega
        have hk3 : (0 : Int) ≤ (n : Int) + 1 := by omega
        have hk4 : IntKind.i64.wrap ((n : Int) + 1) = (n : Int) + 1 := IntWalk.i64_in _ (by omega)
        have hk5 : ((n : Int) + 1).toNat = n + 1 := by omega
        have hn1 : k + 1 ≤ maxLen := by unfold maxLen; omega
        cases ha : nib s[n] with
        | none =>
          have HA := Lib.hid ha
          have HUN := Lib.hid (show unhex s.data.toList = none from by rw [split2 s n hlt2]; exact unhex_bad1 HU.out ha)
          clear ha
          go_wp2_with fail
          refine wp_region_any (by kernel_rfl) ?_
          change wpAny _ _ _ _ _ _ _ (World.drew _)
          refine wpAny_take (i := 0) (v := u3) rfl (by kernel_rfl) (by kernel_rfl) (by kernel_rfl) (fun _ _ _ h => h) (Or.inl ⟨by rfl, by intro w; go_simp⟩) ?_
          refine wpAny_take (i := 1) (v := .string s) rfl (by kernel_rfl) (by kernel_rfl) (by kernel_rfl) (fun _ _ _ h => h) (Or.inl ⟨by rfl, by intro w; go_simp⟩) ?_
          refine wpAny_take (i := 2) (v := .int .i64 n) rfl (by kernel_rfl) (by kernel_rfl) (by kernel_rfl) (fun _ _ _ h => h) (Or.inl ⟨by rfl, by intro w; go_simp⟩) ?_
          refine wpAny_take (i := 3) (v := .int .u8 (s[n].toNat : Int)) rfl (by kernel_rfl) (by kernel_rfl) (by kernel_rfl) (fun _ _ _ h => h) (Or.inl ⟨by rfl, by intro w; go_simp⟩) ?_
          refine wpAny_take (i := 6) (v := .string s) rfl (by kernel_rfl) (by kernel_rfl) (by kernel_rfl) (fun _ _ _ h => h) (Or.inl ⟨by rfl, by intro w; go_simp⟩) ?_
          refine wpAny_take (i := 7) (v := .int .i64 n) rfl (by kernel_rfl) (by kernel_rfl) (by kernel_rfl) (fun _ _ _ h => h) (Or.inl ⟨by rfl, by intro w; go_simp⟩) ?_
          refine wpAny_take (i := 8) (v := .int .i64 ((n : Int) + 1)) rfl (by kernel_rfl) (by kernel_rfl) (by kernel_rfl) (fun _ _ _ h => h) (Or.inl ⟨by rfl, by intro w; go_simp⟩) ?_
          refine wpAny_take (i := 9) (v := .int .u8 (s[n + 1].toNat : Int)) rfl (by kernel_rfl) (by kernel_rfl) (by kernel_rfl) (fun _ _ _ h => h) (Or.inl ⟨by rfl, by intro w; go_simp⟩) ?_
          refine wpAny_ready (rs := [4]) (by kernel_rfl) (by simp) ?_
          refine AllReady.cons rfl (fun K hK => ?_) AllReady.nil
          go_simp
          (with_reducible refine (sumDigit_bad _ _ (nib_none HA.out) hgd).mono ?_)
          rintro e w' ⟨rfl, rfl⟩
          exact ⟨rfl, hb.drew, Or.inr ⟨HUN.out, rfl⟩⟩
        | some p =>
          have HA := Lib.hid (nib_some ha)
          cases hbq : nib s[n + 1] with
          | none =>
            have HB := Lib.hid hbq
            have HUN := Lib.hid (show unhex s.data.toList = none from by rw [split2 s n hlt2]; exact unhex_bad2 HU.out hbq)
            clear ha hbq
            have hp16 : p < 16 := HA.out.1
            go_wp2_with fail
            refine wp_region_any (by kernel_rfl) ?_
            change wpAny _ _ _ _ _ _ _ (World.drew _)
            refine wpAny_take (i := 0) (v := u3) rfl (by kernel_rfl) (by kernel_rfl) (by kernel_rfl) (fun _ _ _ h => h) (Or.inl ⟨by rfl, by intro w; go_simp⟩) ?_
            refine wpAny_take (i := 1) (v := .string s) rfl (by kernel_rfl) (by kernel_rfl) (by kernel_rfl) (fun _ _ _ h => h) (Or.inl ⟨by rfl, by intro w; go_simp⟩) ?_
            refine wpAny_take (i := 2) (v := .int .i64 n) rfl (by kernel_rfl) (by kernel_rfl) (by kernel_rfl) (fun _ _ _ h => h) (Or.inl ⟨by rfl, by intro w; go_simp⟩) ?_
            refine wpAny_take (i := 3) (v := .int .u8 (s[n].toNat : Int)) rfl (by kernel_rfl) (by kernel_rfl) (by kernel_rfl) (fun _ _ _ h => h) (Or.inl ⟨by rfl, by intro w; go_simp⟩) ?_
            refine wpAny_take (i := 6) (v := .string s) rfl (by kernel_rfl) (by kernel_rfl) (by kernel_rfl) (fun _ _ _ h => h) (Or.inl ⟨by rfl, by intro w; go_simp⟩) ?_
            refine wpAny_take (i := 7) (v := .int .i64 n) rfl (by kernel_rfl) (by kernel_rfl) (by kernel_rfl) (fun _ _ _ h => h) (Or.inl ⟨by rfl, by intro w; go_simp⟩) ?_
            refine wpAny_take (i := 8) (v := .int .i64 ((n : Int) + 1)) rfl (by kernel_rfl) (by kernel_rfl) (by kernel_rfl) (fun _ _ _ h => h) (Or.inl ⟨by rfl, by intro w; go_simp⟩) ?_
            refine wpAny_take (i := 9) (v := .int .u8 (s[n + 1].toNat : Int)) rfl (by kernel_rfl) (by kernel_rfl) (by kernel_rfl) (fun _ _ _ h => h) (Or.inl ⟨by rfl, by intro w; go_simp⟩) ?_
            refine wpAny_ready (rs := [4]) (by kernel_rfl) (by simp) ?_
            refine AllReady.cons rfl (fun K hK => ?_) AllReady.nil
            go_simp
            (with_reducible refine (sumDigit_ok s[n] p _ HA.out.1 HA.out.2 hgd).mono ?_)
            rintro e w' ⟨rfl, rfl⟩
            refine hK _ _ ?_
            clear hK K
            refine wpAny_take (i := 5) (v := .int .u8 (IntKind.u8.wrap ((p : Int) * 16))) rfl (by kernel_rfl) (by kernel_rfl) (by kernel_rfl) (fun _ _ _ h => h) (Or.inl ⟨by rfl, by intro w; go_simp⟩) ?_
            refine wpAny_ready (rs := [10]) (by kernel_rfl) (by simp) ?_
            refine AllReady.cons rfl (fun K hK => ?_) AllReady.nil
            go_simp
            (with_reducible refine (sumDigit_bad _ _ (nib_none HB.out) hgd).mono ?_)
            rintro e w' ⟨rfl, rfl⟩
            exact ⟨rfl, hb.drew, Or.inr ⟨HUN.out, rfl⟩⟩
          | some q =>
            have HB := Lib.hid (nib_some hbq)
            obtain ⟨z, HZ⟩ : ∃ z, Hid (z = UInt8.ofNat (p * 16 + q)) := ⟨_, Lib.hid rfl⟩
            have HU2 := Lib.hid (show unhex (s.data.toList.take (n + 2)) = some (o ++ [z]) from by rw [take_pair s n hlt2, HZ.out]; exact unhex_snoc HU.out ha hbq)
            clear ha hbq
            have hp16 : p < 16 := HA.out.1
            have hq16 : q < 16 := HB.out.1
            have hzz : bits .or .u8 (IntKind.u8.wrap ((p : Int) * 16)) (q : Int) = (z.toNat : Int) := by rw [HZ.out]; exact or16 p hp16 q hq16
            go_wp2_with fail
            go_region_held3 (fun _ => True)
              (exact trivial)
              (first
                | (go_at_call 225; ((with_reducible refine (sumDigit_ok s[n] p _ HA.out.1 HA.out.2 hgd).mono ?_); rintro e w' ⟨rfl, rfl⟩))
                | (go_at_call 225; ((with_reducible refine (sumDigit_ok s[n + 1] q _ HB.out.1 HB.out.2 hgd).mono ?_); rintro e w' ⟨rfl, rfl⟩))
                | (refine step_append_lies _ (by rfl) _ _ _ (by rfl) w.heap.size 5 i0 _ 1 1 Tryz.underlying22 hi hz0 hz1 hz2 rfl (by omega) u3 k _ (by rfl) ((hown.alloc _).drew)
                    ⟨wr.heap.size, 0, none⟩ 1 1 (bcs [z]) (by rfl) (by rfl) (World.news_of_block (cs := (bcs [z]).toArray) (t := 5) (fr := (0, 0)) (heap_alloc_new wr _)) (bcs_one _)
                    (by omega) hn1 (by omega) (by have := hb.size; simp; omega) (wr.heap.size + 1) (by simp) ?_; intro gg cap w2 hown1 hgrow1 hat hglt))
            all_goals
              have R : w2.ownsRow w.heap.size 5 1 (.slice (some ⟨gg, 0, none⟩) (k + 1) cap) (k + 1) (bcs (o ++ [z])) := by
                rw [bcs_append]; exact hown1
              have RB : Below w.heap.size w w2 := (hb.alloc hb.size _).drew.grown hgrow1 (by have := hb.size; simp; omega) (fun g h => (hown.lt g h).1)
              clear hown1 hgrow1 hown hb hk4 hzz
              go_wp2
              go_roundw
              case rel => exact ⟨k + 1, n + 2, o ++ [z], by omega, by go_num, R, RB, Lib.hid (by have := HK.out; omega), HU2⟩
              case measure => simp [intOf]; omega
      · have hn : n = s.size := by omega
        have HUN := Lib.hid (show unhex s.data.toList = some o from by have := HU.out; rw [hn, List.take_of_length_le (by simp)] at this; exact this)
        clear hn
        have hconv := run_convert_own (P := Tryz.prog) 22 9 Tryz.underlying22 Tryz.underlying5 Tryz.underlying9 hown
        go_wp2
        go_ret
        exact ⟨hb, Or.inl ⟨o, HUN.out, rfl⟩⟩
end Go.Proofs.YtgjlhokakcdpbaaGreatDoor
