/-
  The document's l4At and l4Roots.
-/
import Derived.Test.YtobjgdnmlibofaaGreatBookMath
import Derived.Test.YtobjgdnmlibofaaGreatBookBox
import Derived.BigQuiet
set_option maxRecDepth 100000
namespace Go.Proofs.YtobjgdnmlibofaaGreat
open Go.ChangeShapes Go.WideShapes Go.ChangeAt Go.RowKit Go.Proofs.Palim

theorem atM_eq : ∀ {ls : List SetM} {s : ByteArray} {k : Nat}, k ≤ ls.length → (∀ (j : Nat) (h : j < ls.length), j < k → Lt ls[j].name s) → (∀ (h : k < ls.length), ¬ Lt ls[k].name s) → atM ls s = k
  | [], s, k, hk, _, _ => by simp at hk; subst hk; rfl
  | a :: l, s, 0, _, _, h2 => by
    have := h2 (by simp)
    simp at this
    simp [atM, this]
  | a :: l, s, k + 1, hk, h1, h2 => by
    have ha := h1 0 (by simp) (by omega)
    simp at ha
    have ih := atM_eq (ls := l) (s := s) (k := k) (by simpa using hk) (fun j h hj => h1 (j + 1) (by simpa using h) (by omega)) (fun h => h2 (by simpa using h))
    simp [atM, ha] at ih ⊢
    exact ih
theorem ret_at {a b : Nat} {x y : Bool} (h : a = b) (h2 : x = y) : Ending.returned (.tuple #[.int .i64 (a : Int), .bool x]) = Ending.returned (.tuple #[.int .i64 (b : Int), .bool y]) := by rw [h, h2]

set_option maxHeartbeats 1000000 in
theorem l4At_any (v : Value) (ls : List SetM) (s : ByteArray) (w : World) (h : BookR w v ls) (hs : ls.length ≤ 1048576) :
    Calls Tryz.prog 128 #[.agg #[v], .string s] w fun e w' => e = .returned (.tuple #[.int .i64 (atM ls s : Int), .bool (thereM ls s)]) ∧ Below w.heap.size w w' := by
  have hb0 := Below.new1 (w := w) (.cells #[v] 94)
  have hX := box_new w #[v] 94
  have h1 := (h.below hb0 (Nat.le_refl _)).r
  clear h
  obtain ⟨n, HN⟩ : ∃ n, Hid (ls.length = n) := ⟨_, Lib.hid rfl⟩
  rw [HN.out] at h1 hs
  by_cases hn : n = 0
  · subst hn
    obtain ⟨_, A, c, rfl, _, _, _⟩ := h1
    have HE := Lib.hid (List.length_eq_zero_iff.1 HN.out)
    have HW := Lib.hid hb0
    clear hb0 hX
    go_enter Tryz.func128, Tryz.ntmps128
    go_wp2
    go_loop [6] (fun i => i = .int .i64 0) (fun _ => 0)
    case atStart => rfl
    case round =>
      subst hrel
      have hd : decide ((0 : Int) < 0) = false := rfl
      go_wp2_with fail
      go_quiet (fail)
      go_wp2
      go_ret2
      exact ⟨ret_at (by rw [HE.out]; rfl) (by rw [HE.out]; rfl), below_drewN HW.out _⟩
  · obtain ⟨b, off, c, rfl, hnc, hcm, hcell⟩ := h1.form (by omega)
    have HC := Lib.hid hcell
    have HW := Lib.hid hb0
    have HX := Lib.hid hX
    unfold maxLen at hcm
    clear hcell h1 hb0 hX
    go_enter Tryz.func128, Tryz.ntmps128
    go_wp2
    generalize (w.alloc (.cells #[.slice (some ⟨b, off, none⟩) n c] 94)) = W at HC HW HX
    have x0 := HX.out.cell 0 rfl
    go_loop [6] (fun i => ∃ k : Nat, k ≤ n ∧ i = .int .i64 k ∧ Hid (∀ (j : Nat) (h : j < ls.length), j < k → Lt ls[j].name s)) (fun i => n - (intOf i).toNat)
    case atStart => exact ⟨0, Nat.zero_le _, rfl, Lib.hid (fun j _ h => absurd h (Nat.not_lt_zero _))⟩
    case round =>
      obtain ⟨k, hk, rfl, HK⟩ := hrel
      by_cases hlt : k < n
      · have hl0 : k < ls.length := by rw [HN.out]; exact hlt
        have g0 := (set_read HC.out k hl0).all.1
        have hk1 : (k : Int) < (n : Int) := by omega
        by_cases hL : Lt ls[k].name s
        · have HK1 := Lib.hid (show ∀ (j : Nat) (h : j < ls.length), j < k + 1 → Lt ls[j].name s from fun j h hj => by
            rcases Nat.lt_succ_iff_lt_or_eq.1 hj with h2 | rfl
            · exact HK.out j h h2
            · exact hL)
          have hL2 : Op.bytesLess ls[k].name.toList s.toList = true := hL
          clear hL HK
          generalize ls[k] = x at g0 hL2
          go_wp2
          go_round
          case rel => exact ⟨k + 1, by omega, by go_num, HK1⟩
          case measure => simp [intOf]; omega
        · have HA := Lib.hid (atM_eq (by rw [HN.out]; exact hk) HK.out (fun _ => hL))
          have HT := Lib.hid (show thereM ls s = decide (ls[k].name = s) from by unfold thereM; rw [HA.out, List.getElem?_eq_getElem hl0])
          have hL2 : Op.bytesLess ls[k].name.toList s.toList = false := by simpa [Lt] using hL
          clear hL HK
          generalize ls[k] = x at g0 hL2 HT
          by_cases he : x.name = s
          · have he2 : (x.name.toList == s.toList) = true := by rw [he]; simp
            have HT2 := Lib.hid (HT.out.trans (decide_eq_true he))
            clear HT he
            go_wp2_with fail
            go_quiet (fail)
            go_wp2
            go_ret2
            exact ⟨ret_at HA.out.symm HT2.out.symm, below_drewN HW.out _⟩
          · have he2 : (x.name.toList == s.toList) = false := by rw [← beq_toListBytes, bytes_beq, decide_eq_false he]
            have HT2 := Lib.hid (HT.out.trans (decide_eq_false he))
            clear HT he
            go_wp2_with fail
            go_quiet (fail)
            go_wp2
            go_ret2
            exact ⟨ret_at HA.out.symm HT2.out.symm, below_drewN HW.out _⟩
      · have HA := Lib.hid (atM_eq (by rw [HN.out]; exact hk) HK.out (fun h => absurd h (by rw [HN.out]; exact hlt)))
        have HT2 := Lib.hid (show thereM ls s = false from by unfold thereM; rw [HA.out, List.getElem?_eq_none (by rw [HN.out]; omega)])
        have hd : decide ((k : Int) < (n : Int)) = false := decide_eq_false (by omega)
        clear HK
        go_wp2_with fail
        go_quiet (fail)
        go_wp2
        go_ret2
        exact ⟨ret_at HA.out.symm HT2.out.symm, below_drewN HW.out _⟩
end Go.Proofs.YtobjgdnmlibofaaGreat
