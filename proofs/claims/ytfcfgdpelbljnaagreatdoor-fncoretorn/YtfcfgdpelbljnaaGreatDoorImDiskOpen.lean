/-
  impl's DiskOpen: two sides of empty sectors, or no disk.
-/
import Derived.Test.YtfcfgdpelbljnaaGreatDoorBase
set_option maxRecDepth 100000
namespace Go.Proofs.YtfcfgdpelbljnaaGreatDoor
open Go.ChangeShapes Go.WideShapes Go.ChangeAt Go.RowKit Go.Proofs.Palim

/-- After the three stores of a disk into a box of the call's own. -/
theorem Below.set3 {B : Nat} {w w' : World} (h : Below B w w') {b : Nat} (hb : B ≤ b) (x y z : Value) : Below B w (((w'.setCell ⟨b, 0, none⟩ x).setCell ⟨b, 1, none⟩ y).setCell ⟨b, 2, none⟩ z) :=
  ((h.setCell (p := ⟨b, 0, none⟩) hb x).setCell (p := ⟨b, 1, none⟩) hb y).setCell (p := ⟨b, 2, none⟩) hb z

set_option maxHeartbeats 400000 in
theorem ImplDiskOpen_any (n : Int) (w : World) (h0 : -9223372036854775808 ≤ n) (h1 : n ≤ 9223372036854775807) :
    Calls Tryz.prog 7 #[.int .i64 n] w (NewDisk w (openM n)) := by
  by_cases hn : n < 1 ∨ n > 120
  · have HM := Lib.hid (show openM n = noDisk from if_pos hn)
    rw [HM.out]
    have hn' : n < 1 ∨ (1 ≤ n ∧ 120 < n) := by omega
    clear hn
    rcases hn' with k1 | ⟨k1, k2⟩
    all_goals
      go_enter Tryz.func7, Tryz.ntmps7
      go_wp2
      refine bodyPost_ret (v := .agg #[.slice none 0 0, .slice none 0 0, .slice none 0 0]) (by simp [results, Tryz.results7, go_sem]) rfl ⟨_, _, _, rfl, noDisk_own _ _, (Below.refl _ _).alloc (Nat.le_refl _) _⟩
  · have HM := Lib.hid (show openM n = ⟨List.replicate n.toNat ⟨#[]⟩, List.replicate n.toNat ⟨#[]⟩, []⟩ from if_neg hn)
    rw [HM.out]
    obtain ⟨m, rfl⟩ : ∃ m : Nat, n = m := ⟨n.toNat, by omega⟩
    have k1 : 1 ≤ m := by omega
    have k2 : m ≤ 120 := by omega
    clear hn h0 h1 HM
    have hmk := makeStrs m (by omega)
    go_enter Tryz.func7, Tryz.ntmps7
    go_wp2_with fail
    go_region_held3 (fun _ => True) (exact trivial) (fail)
    · go_wp2
      refine bodyPost_ret (v := .agg #[.slice (some ⟨w.heap.size + 1, 0, none⟩) m m, .slice (some ⟨w.heap.size + 1 + 1, 0, none⟩) m m, .slice none 0 0]) (by simp [results, Tryz.results7, go_sem]) rfl ⟨_, _, _, rfl, ⟨?_, ?_, ⟨rfl, .inl ⟨rfl, rfl⟩⟩, fun g e e' => by simp [Value.ownBlock] at e e'; omega, fun _ _ e => by simp [Value.ownBlock] at e, fun _ _ e => by simp [Value.ownBlock] at e⟩, ?_⟩
      · exact own_made (heap3 w _ _ _).1 (by unfold maxLen; omega) (by omega)
      · exact own_made (heap3 w _ _ _).2 (by unfold maxLen; omega) (by omega)
      · exact ((((Below.refl _ _).alloc (Nat.le_refl _) _).alloc (by simp) _).alloc (by simp; omega) _).drew
    · go_wp2
      refine bodyPost_ret (v := .agg #[.slice (some ⟨w.heap.size + 1 + 1, 0, none⟩) m m, .slice (some ⟨w.heap.size + 1, 0, none⟩) m m, .slice none 0 0]) (by simp [results, Tryz.results7, go_sem]) rfl ⟨_, _, _, rfl, ⟨?_, ?_, ⟨rfl, .inl ⟨rfl, rfl⟩⟩, fun g e e' => by simp [Value.ownBlock] at e e'; omega, fun _ _ e => by simp [Value.ownBlock] at e, fun _ _ e => by simp [Value.ownBlock] at e⟩, ?_⟩
      · exact own_made (heap3 w _ _ _).2 (by unfold maxLen; omega) (by omega)
      · exact own_made (heap3 w _ _ _).1 (by unfold maxLen; omega) (by omega)
      · exact ((((Below.refl _ _).alloc (Nat.le_refl _) _).alloc (by simp) _).alloc (by simp; omega) _).drew
end Go.Proofs.YtfcfgdpelbljnaaGreatDoor
