/-
  The document's reader of hexadecimals.
-/
import Derived.Test.YtgjlhokakcdpbaaGreatDoorImplUnhex
import Derived.WalkKit
import Derived.ProofKit
import Derived.Lib.Hide
import Derived.WalkSpells
import Derived.Deep.AppendLies
set_option maxRecDepth 100000
namespace Go.Proofs.YtgjlhokakcdpbaaGreatDoor
open Go.ChangeShapes Go.WideShapes Go.ChangeAt Go.RowKit Go.Proofs.Palim

def hexText : ByteArray := ⟨#[48, 49, 50, 51, 52, 53, 54, 55, 56, 57, 97, 98, 99, 100, 101, 102]⟩
theorem hexText_size : hexText.size = 16 := rfl
theorem hexText_at (n : Nat) (h : n < hexText.size) : hexText[n] = hexD n := hexStr n h h

theorem findDigit_hit (c : UInt8) (v : Nat) (w : World) (hv : v < 16) (hc : hexD v = c) :
    Calls Tryz.prog 120 #[.string ⟨#[48, 49, 50, 51, 52, 53, 54, 55, 56, 57, 97, 98, 99, 100, 101, 102]⟩, .int .u8 (c.toNat : Int)] w fun e w' => e = .returned (.int .i64 (v : Int)) ∧ w = w' :=
  l19Find_hit hexText c v w (by rw [hexText_size]; unfold maxLen; omega) hv ((hexText_at v hv).trans hc) (fun j h hj e => by
    rw [hexText_at, ← hc] at e
    exact absurd (hexD_inj j h v hv e) (by omega))
theorem findDigit_miss (c : UInt8) (w : World) (hc : nib c = none) :
    Calls Tryz.prog 120 #[.string ⟨#[48, 49, 50, 51, 52, 53, 54, 55, 56, 57, 97, 98, 99, 100, 101, 102]⟩, .int .u8 (c.toNat : Int)] w fun e w' => e = .returned (.int .i64 (-1)) ∧ w = w' :=
  l19Find_miss hexText c w (by rw [hexText_size]; unfold maxLen; omega) (fun j h => by rw [hexText_at]; exact nib_none hc j h)

theorem byte16 : ∀ p, p < 16 → ∀ q, q < 16 → IntKind.u8.wrap ((p : Nat) * 16 + (q : Nat) : Int) = ((UInt8.ofNat (p * 16 + q)).toNat : Int) := by decide +kernel

set_option maxHeartbeats 1000000 in
theorem specUnhex_any (s : ByteArray) (w : World) (hs : s.size ≤ 1048576) :
    Calls Tryz.prog 50 #[.string s] w (UnhexPost s w) := by
  obtain ⟨i0, hi, hz0, hz1, hz2⟩ := info_parts infoU8
  by_cases hodd : s.size % 2 = 1
  · have hm : (s.size : Int) % 2 = 1 := by omega
    have HU := Lib.hid (unhex_odd (l := s.data.toList) (by simpa using hodd))
    clear hodd
    go_enter Tryz.func50, Tryz.ntmps50
    go_wp2
    go_ret2
    exact ⟨Below.refl _ _, Or.inr ⟨HU.out, rfl⟩⟩
  · have hm : (s.size : Int) % 2 = 0 := by omega
    have hev : s.size % 2 = 0 := by omega
    have HE := Lib.hid hev
    clear hodd hev
    go_enter Tryz.func50, Tryz.ntmps50
    go_wp2
    clear hm
    go_loopw [4, 5, 6, 7] (fun v i _ _ wr => ∃ (k n : Nat) (o : List UInt8), n ≤ s.size ∧ i = .int .i64 n ∧ wr.ownsRow w.heap.size 5 1 v k (bcs o) ∧ Below w.heap.size w wr ∧ Hid (n = 2 * k) ∧ Hid (unhex (s.data.toList.take n) = some o)) (fun _ i _ _ _ => s.size - (intOf i).toNat)
    case atStart => exact ⟨0, 0, [], Nat.zero_le _, rfl, World.ownsRow_made w #[] 0 (Nat.le_refl _) (by unfold maxLen; omega) rfl, (Below.refl _ _).alloc (Nat.le_refl _) _, Lib.hid rfl, Lib.hid rfl⟩
    case round =>
      obtain ⟨k, n, o, hk, rfl, hown, hb, HK, HU⟩ := hrel
      by_cases hlt : n < s.size
      · have hlt2 : n + 1 < s.size := by have := HK.out; have := HE.out; omega
        have hkm : k < 1048576 := by have := HK.out; omega
        have hn1 : k + 1 ≤ maxLen := by unfold maxLen; omega
        cases ha : nib s[n] with
        | none =>
          have HA := Lib.hid ha
          have HUN := Lib.hid (show unhex s.data.toList = none from by rw [split2 s n hlt2]; exact unhex_bad1 HU.out ha)
          clear ha
          go_wp2_with fail
          (with_reducible refine (findDigit_miss _ _ HA.out).mono ?_)
          rintro e w' ⟨rfl, rfl⟩
          cases hbq : nib s[n + 1] with
          | none =>
            have HB := Lib.hid hbq
            clear hbq
            go_wp2_with fail
            (with_reducible refine (findDigit_miss _ _ HB.out).mono ?_)
            rintro e w' ⟨rfl, rfl⟩
            go_wp2
            go_ret2
            exact ⟨hb, Or.inr ⟨HUN.out, rfl⟩⟩
          | some q =>
            have HB := Lib.hid (nib_some hbq)
            clear hbq
            go_wp2_with fail
            (with_reducible refine (findDigit_hit _ _ _ HB.out.1 HB.out.2).mono ?_)
            rintro e w' ⟨rfl, rfl⟩
            go_wp2
            go_ret2
            exact ⟨hb, Or.inr ⟨HUN.out, rfl⟩⟩
        | some p =>
          have HA := Lib.hid (nib_some ha)
          have hp16 : p < 16 := HA.out.1
          go_wp2_with fail
          (with_reducible refine (findDigit_hit _ _ _ HA.out.1 HA.out.2).mono ?_)
          rintro e w' ⟨rfl, rfl⟩
          cases hbq : nib s[n + 1] with
          | none =>
            have HB := Lib.hid hbq
            have HUN := Lib.hid (show unhex s.data.toList = none from by rw [split2 s n hlt2]; exact unhex_bad2 HU.out hbq)
            clear ha hbq
            go_wp2_with fail
            (with_reducible refine (findDigit_miss _ _ HB.out).mono ?_)
            rintro e w' ⟨rfl, rfl⟩
            go_wp2
            go_ret2
            exact ⟨hb, Or.inr ⟨HUN.out, rfl⟩⟩
          | some q =>
            have HB := Lib.hid (nib_some hbq)
            have hq16 : q < 16 := HB.out.1
            obtain ⟨z, HZ⟩ : ∃ z, Hid (z = UInt8.ofNat (p * 16 + q)) := ⟨_, Lib.hid rfl⟩
            have HU2 := Lib.hid (show unhex (s.data.toList.take (n + 2)) = some (o ++ [z]) from by rw [take_pair s n hlt2, HZ.out]; exact unhex_snoc HU.out ha hbq)
            have hzz : IntKind.u8.wrap ((p : Int) * 16 + (q : Int)) = (z.toNat : Int) := by rw [HZ.out]; exact byte16 p hp16 q hq16
            clear ha hbq
            go_wp2_with fail
            (with_reducible refine (findDigit_hit _ _ _ HB.out.1 HB.out.2).mono ?_)
            rintro e w' ⟨rfl, rfl⟩
            go_wp2_with (first
              | (at_builtin; refine wpList_append_own _ rfl _ _ 22 rfl w.heap.size 5 i0 (.int .u8 0) 1 1 Tryz.underlying22 hi hz0 hz1 hz2 rfl (by decide) _ _ _ rfl (hown.alloc _) ⟨wr.heap.size, 0, none⟩ 1 1 (bcs [z]) rfl rfl ?c1 (bcs_one _) hn1 (by omega) (by have := hb.size; simp; omega) ?_))
            case c1 => exact World.news_of_block (cs := (bcs [z]).toArray) (t := 5) (fr := (0, 0)) (heap_alloc_new wr _)
            · intro v' w2 hown1 hgrow1 _
              have R : w2.ownsRow w.heap.size 5 1 v' (k + 1) (bcs (o ++ [z])) := by
                rw [bcs_append]; exact hown1
              have RB : Below w.heap.size w w2 := (hb.alloc hb.size _).grown hgrow1 (by have := hb.size; simp; omega) (fun g h => (hown.lt g h).1)
              clear hown1 hgrow1 hown hb hzz
              go_wp2
              go_roundw
              case rel => exact ⟨k + 1, n + 2, o ++ [z], by omega, by go_num, R, RB, Lib.hid (by have := HK.out; omega), HU2⟩
              case measure => simp [intOf]; omega
      · have hn : n = s.size := by omega
        have HUN := Lib.hid (show unhex s.data.toList = some o from by have := HU.out; rw [hn, List.take_of_length_le (by simp)] at this; exact this)
        clear hn
        have hconv := run_convert_own (P := Tryz.prog) 22 9 Tryz.underlying22 Tryz.underlying5 Tryz.underlying9 hown
        go_wp2
        go_ret2
        exact ⟨hb, Or.inl ⟨o, HUN.out, rfl⟩⟩
end Go.Proofs.YtgjlhokakcdpbaaGreatDoor
