/-
  A list of numbers marked: what it holds then.
-/
import Derived.Test.YtobjgdnmlibofaaGreatIntS
set_option maxRecDepth 100000
namespace Go.Proofs.YtobjgdnmlibofaaGreat
open Go.ChangeShapes Go.WideShapes Go.ChangeAt Go.RowKit Go.Proofs.Palim

def MarkedIM (k : Nat) (v : Value) (base n : Nat) (w : World) (e : Ending) (w' : World) : Prop :=
  e = .returned (.int .i64 ((k + n : Nat) : Int)) ∧ w'.ownsRow base 3 1 v n (ics (imarks k n)) ∧ Turned (fun b => v.ownBlock = some b) w w'
theorem below_of_turned {S : Nat → Prop} {B : Nat} {w w' : World} (ht : Turned S w w') (hS : ∀ b, S b → B ≤ b) (hB : B ≤ w.heap.size) : Below B w w' :=
  ⟨ht.os, ht.tape, ht.output, ht.size, fun i hi => ht.block i (by omega) (fun h => by have := hS i h; omega)⟩

set_option maxHeartbeats 400000 in
theorem markIntM_any (v : Value) (n k base : Nat) (xs0 : List Value) (w : World) (h : w.ownsRow base 3 1 v n xs0) (hs : n ≤ 1048576) (hk0 : 1 ≤ k) (hk1 : k ≤ 100000000) :
    Calls Tryz.prog 20 #[v, .int .i64 (k : Int)] w (MarkedIM k v base n w) := by
  by_cases hn : n = 0
  · subst hn
    obtain ⟨_, A, c, rfl, _, _, _⟩ := sl_of_own h
    have HO := Lib.hid h
    clear h
    go_enter Tryz.func20, Tryz.ntmps20
    go_wp2
    go_loopw [1, 5] (fun l i wr => l = .int .i64 (k : Int) ∧ i = .int .i64 0 ∧ wr = w) (fun _ _ _ => 0)
    case atStart => exact ⟨rfl, rfl, rfl⟩
    case round =>
      obtain ⟨rfl, rfl, rfl⟩ := hrel
      go_wp2
      go_ret
      refine ⟨rfl, ?_, Turned.refl _ _⟩
      have h0 := HO.out
      have e0 := List.length_eq_zero_iff.1 (show xs0.length = 0 from by simpa using h0.1)
      rw [e0] at h0
      exact h0
  · obtain ⟨g, cap, rfl, hbg, hgl⟩ := h.form (by omega)
    have hcp : cap ≤ maxLen ∧ n ≤ cap := by
      rcases h.2 with ⟨hv, _⟩ | ⟨g', cap', cur, hv, _, _, h1, h2, _⟩
      · cases hv
      · injection hv with e1 e2 e3
        subst e3
        exact ⟨h2, h1⟩
    obtain ⟨hcp1, hcp2⟩ := hcp
    unfold maxLen at hcp1
    have HO0 := Lib.hid h
    clear h
    go_enter Tryz.func20, Tryz.ntmps20
    go_wp2
    go_loopw [1, 5] (fun l i wr => ∃ (j kk : Nat) (xs : List Value), j ≤ n ∧ kk = k + j ∧ l = .int .i64 (kk : Int) ∧ i = .int .i64 (j : Int) ∧ Hid (wr.ownsRow base 3 1 (.slice (some ⟨g, 0, none⟩) n cap) n xs) ∧ Hid (xs.take j = ics (imarks k j)) ∧ Hid (Turned (fun b => b = g) w wr)) (fun _ i _ => n - (RowKit.intOf i).toNat)
    case atStart => exact ⟨0, k, _, Nat.zero_le _, rfl, rfl, rfl, HO0, Lib.hid rfl, Lib.hid (Turned.refl _ _)⟩
    case round =>
      obtain ⟨j, kk, xs, hj, hkk, rfl, rfl, HO, HT, HW⟩ := hrel
      have HK := Lib.hid hkk
      have hkb : kk ≤ 101048576 := by omega
      have hkb1 : 1 ≤ kk := by omega
      clear hkk
      by_cases hlt : j < n
      · obtain ⟨⟨u, _, hcu⟩, hfu, _, _⟩ := own_at HO.out j (by omega)
        have HO2 := Lib.hid (own_set HO.out j (.int .i64 (kk : Int)))
        have HW2 := Lib.hid (turned_setCell HW.out (p := ⟨g, j, none⟩) rfl (.int .i64 (kk : Int)))
        have HT2 := Lib.hid (show (xs.set j (.int .i64 (kk : Int))).take (j + 1) = ics (imarks k (j + 1)) from by
          have hl : j < xs.length := by have := HO.out.1; omega
          rw [take_set_succ xs j _ hl, HT.out, imarks_succ, ics_snoc, HK.out])
        clear HO HT HW
        go_wp2
        go_roundw
        case rel => exact ⟨j + 1, kk + 1, _, by omega, by have := HK.out; omega, by go_num, by go_num, HO2, HT2, HW2⟩
        case measure => simp [RowKit.intOf]; omega
      · have hjn : j = n := by omega
        have HX := Lib.hid (show xs = ics (imarks k n) from by
          have hl := HO.out.1
          have ht := HT.out
          rw [List.take_of_length_le (by omega), hjn] at ht
          exact ht)
        have HKN := Lib.hid (show kk = k + n from by rw [HK.out, hjn])
        clear hjn
        go_wp2
        go_ret
        refine ⟨?_, ?_, HW.out.mono ?_⟩
        · exact ret_int (by rw [HKN.out])
        · rw [← HX.out]; exact HO.out
        · rintro b _ rfl; rfl
end Go.Proofs.YtobjgdnmlibofaaGreat
